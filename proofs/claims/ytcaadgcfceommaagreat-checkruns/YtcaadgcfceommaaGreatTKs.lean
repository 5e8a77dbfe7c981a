import Derived.Test.YtcaadgcfceommaaGreatTKn
namespace Go.Proofs.YtcaadgcfceommaaGreat
open Go.RowKit
set_option linter.unusedVariables false
set_option linter.unusedSimpArgs false
set_option maxRecDepth 100000
structure BD where
 ss : List ST
 hs : List Int
 loops : List Int
 order : List Int
structure BdAt (w : World) (base gs n : Nat) (hv lv ov : Value) (b : BD) : Prop where
 len : b.ss.length = n
 ss : RowS w base gs b.ss
 hl : b.hs.length = n
 hs : OwnN w base hv b.hs
 lo : OwnN w base lv b.loops
 od : OwnN w base ov b.order
theorem BdAt.same {w w' : World} {base gs n : Nat} {hv lv ov : Value} {b : BD} (h : BdAt w base gs n hv lv ov b) (hk : KF w w') : BdAt w' base gs n hv lv ov b :=
 ⟨h.len, h.ss.same hk, h.hl, hk.ownsRow h.hs (fun _ _ f => f), hk.ownsRow h.lo (fun _ _ f => f), hk.ownsRow h.od (fun _ _ f => f)⟩
structure BdOk (n : Nat) (b : BD) : Prop where
 n1 : 1 ≤ n ∧ n ≤ 4096
 stb : ∀ s ∈ b.ss, STB s
 hs : ∀ x ∈ b.hs, -1 ≤ x ∧ x ≤ 256
 od : ∀ m ∈ b.order, 0 ≤ m ∧ m < n
 ol : b.order.length ≤ n
def st0 : ST := ⟨0, 0, 0, 0, []⟩
def max2 (a b : Int) : Int := if a < b then b else a
theorem run_max3 (w : World) (x y z : Int) : (Builtin.max_ #[3, 3, 3] 3 #[.int .i64 x, .int .i64 y, .int .i64 z]).run Tryz.prog w = .ok (.int .i64 (max2 (max2 x y) z)) w := by
 simp [Builtin.max_, Builtin.max2, YtcaadgcfceommaaGreat.max2]
 rfl
def topF (b : BD) (t m : Int) : Int := max2 (max2 t (b.hs.getD m.toNat 0)) (behindS (b.ss.getD m.toNat st0) (b.hs.getD m.toNat 0))
def topP (b : BD) : Int := b.order.foldl (topF b) 0
def callsP (b : BD) : List Int := b.order.filter (fun m => decide ((b.ss.getD m.toNat st0).op = 17))
theorem behind_ge (s : ST) (hs : STB s) (h : Int) (h0 : -1 ≤ h ∧ h ≤ 256) (nv : Value) (w : World) (hone : nv.oneCell' = true) :
  Calls Tryz.prog 86 #[.agg (s.cells nv).toArray, .int .i64 h] w fun e w' => e = .returned (.int .i64 (behindS s h)) ∧ KF w w' := by
 have h1 := hs.tk
 have h2 := hs.gv
 obtain ⟨op, a, tk, gv, nx⟩ := s
 simp only at h1 h2
 have HK : Hid (KF w (w.alloc (.cells (ST.cells ⟨op, a, tk, gv, nx⟩ nv).toArray 115))) := (Kept.refl _ _).alloc _
 have hb := heap_alloc_new w (.cells (ST.cells ⟨op, a, tk, gv, nx⟩ nv).toArray 115)
 have c2 := cell_block _ _ 2 _ _ _ hb
 have c3 := cell_block _ _ 3 _ _ _ hb
 clear hb hs
 unfold ST.cells at *
 unfold behindS
 simp only
 go_enter Tryz.func86, Tryz.ntmps86
 go_wp2
 go_ret
 exact ⟨rfl, HK.out⟩
theorem own_look {w : World} {base : Nat} {v : Value} {l : List Int} (h : OwnN w base v l) {i : Nat} (hi : i < l.length) : ∃ g c, v = .slice (some ⟨g, 0, none⟩) l.length c ∧ w.cell? ⟨g, i, none⟩ = some (.int .i64 (l.getD i 0)) := by
 rcases h.2 with ⟨_, h0⟩ | ⟨g, c, cur, rfl, _⟩
 ·omega
 ·refine ⟨g, c, rfl, ?_⟩
  have := h.cells rfl i (.int .i64 (l.getD i 0)) (by simp [ints, List.getD, List.getElem?_eq_getElem hi])
  rwa [Addr.add_lit, Nat.zero_add] at this
theorem ss_look {b : BD} {w : World} {base gs n : Nat} {hv lv ov : Value} (h : BdAt w base gs n hv lv ov b) {q : Nat} (hq : q < n) : ∃ nv, w.rangeAt gs (q * 5) ((b.ss.getD q st0).cells nv) ∧ nv.oneCell' = true ∧ b.ss.getD q st0 ∈ b.ss ∧ OwnN w base nv (b.ss.getD q st0).nx := by
 have hl : q < b.ss.length := by rw [h.len]; exact hq
 obtain ⟨nv, h1, h2⟩ := h.ss q _ (List.getElem?_eq_getElem hl)
 have e : b.ss.getD q st0 = b.ss[q] := by simp [List.getD, List.getElem?_eq_getElem hl]
 rw [e]
 obtain ⟨ao, c, hv⟩ := ownsRow_shape h2
 exact ⟨nv, h1, by rw [hv]; rfl, List.getElem_mem hl, h2⟩
set_option maxHeartbeats 8000000 in
theorem top_any (w : World) (base gs n : Nat) (hv lv ov : Value) (b : BD) (h : BdAt w base gs n hv lv ov b) (hok : BdOk n b) :
  Calls Tryz.prog 64 #[.agg #[.slice (some ⟨gs, 0, none⟩) n n, hv, lv, ov]] w fun e w' => e = .returned (.int .i64 (topP b)) ∧ KF w w' := by
 have hkA : KF w (w.alloc (.cells #[.slice (some ⟨gs, 0, none⟩) n n, hv, lv, ov] 77)) := (Kept.refl _ _).alloc _
 have hbA := heap_alloc_new w (.cells #[.slice (some ⟨gs, 0, none⟩) n n, hv, lv, ov] 77)
 obtain ⟨oao, oc, hov⟩ := ownsRow_shape h.od
 obtain ⟨hao, hc, hhv⟩ := ownsRow_shape h.hs
 obtain ⟨lao, lc, hlv⟩ := ownsRow_shape h.lo
 obtain ⟨m, hm⟩ := nmd (b.order.length)
 rw [← hm] at hov
 rw [h.hl] at hhv
 obtain ⟨ll, hll⟩ := nmd (b.loops.length)
 rw [← hll] at hlv
 subst hov hhv hlv
 have b3 := cell_block _ _ 3 _ _ _ hbA
 have HKA := hid_of hkA
 have HBA := hid_of hbA
 have HB := hid_of h
 have HOK := hid_of hok
 have HM := hid_of hm
 have hmn : m ≤ 4096 := by have := hok.ol; have := hok.n1.2; omega
 have HT : Hid (topP b = (b.order.drop 0).foldl (topF b) 0) := rfl
 obtain ⟨tp, htp⟩ := nmd (topP b)
 rw [← htp] at HT ⊢
 clear h hok hm hll htp hkA hbA
 go_enter Tryz.func64, Tryz.ntmps64
 go_wp2
 clear b3
 generalize w.alloc (.cells #[.slice (some ⟨gs, 0, none⟩) n n, .slice hao n hc, .slice lao ll lc, .slice oao m oc] 77) = w1 at *
 generalize w.heap.size = gb at *
 have HK0 := hid_of (Kept.refl (fun _ => False) w1)
 go_loopw [3, 9] (fun tv iv wr => ∃ (k : Nat) (x : Int), k ≤ m ∧ tv = .int .i64 x ∧ iv = .int .i64 (k : Int) ∧ Hid (KF w1 wr) ∧ Hid (tp = (b.order.drop k).foldl (topF b) x)) (fun _ iv _ => m - (intOf iv).toNat)
 case atStart => exact ⟨0, 0, by omega, rfl, rfl, HK0, HT⟩
 case round =>
  clear HK0 HT
  obtain ⟨k, x, hk, rfl, rfl, HK, HT⟩ := hrel
  by_cases hlt : k < m
  ·have hltI : (k : Int) < (m : Int) := by omega
   have hkl : k < b.order.length := by rw [← HM.out]; exact hlt
   have hB := HB.out.same (HKA.out.trans HK.out)
   have hmem := getD_mem hkl
   obtain ⟨q, hq⟩ : ∃ q : Nat, b.order.getD k 0 = (q : Int) := ⟨(b.order.getD k 0).toNat, by have := (HOK.out.od _ hmem).1; omega⟩
   have hqn : q < n := by have := (HOK.out.od _ hmem).2; omega
   have hqI : (q : Int) < (n : Int) := by omega
   obtain ⟨go, co, e1, hco⟩ := own_look hB.od hkl
   simp only [Value.slice.injEq] at e1
   obtain ⟨rfl, hx8, rfl⟩ := e1
   clear hx8
   rw [hq] at hco
   obtain ⟨gh, ch, e2, hch⟩ := own_look hB.hs (i := q) (by rw [hB.hl]; exact hqn)
   simp only [Value.slice.injEq] at e2
   obtain ⟨rfl, hx9, rfl⟩ := e2
   clear hx9
   obtain ⟨nv, hrg, hone, hsm, hnv⟩ := ss_look hB hqn
   obtain ⟨nao, nc, hnvs⟩ := ownsRow_shape hnv
   generalize (b.ss.getD q st0).nx.length = nl at hnvs
   subst hnvs
   have HTN : Hid (tp = (b.order.drop (k + 1)).foldl (topF b) (max2 (max2 x (b.hs.getD q 0)) (behindS (b.ss.getD q st0) (b.hs.getD q 0)))) := by
    unfold Hid
    rw [HT.out, List.drop_eq_getElem_cons hkl]
    have e : b.order[k] = (q : Int) := by rw [← hq]; simp [List.getD, List.getElem?_eq_getElem hkl]
    rw [e]
    show List.foldl _ (topF b x (q : Int)) _ = _
    unfold topF
    rw [Int.toNat_natCast]
   have hhr := HOK.out.hs _ (getD_mem (show q < b.hs.length by rw [hB.hl]; exact hqn))
   have HBE := hid_of (fun W => behind_ge (b.ss.getD q st0) (HOK.out.stb _ hsm) (b.hs.getD q 0) hhr (.slice nao nl nc) W hone)
   generalize behindS (b.ss.getD q st0) (b.hs.getD q 0) = bq at *
   generalize b.hs.getD q 0 = hq' at *
   generalize b.ss.getD q st0 = sq at *
   obtain ⟨op, ia, tk, gv, nx⟩ := sq
   have HSM : Hid (∀ w', KF wr w' → w'.cell? ⟨gb, 0, none⟩ = some (.slice (some ⟨gs, 0, none⟩) n n) ∧ w'.cell? ⟨gb, 1, none⟩ = some (.slice (some ⟨gh, 0, none⟩) n hc) ∧ w'.cell? ⟨gs, q * 5, none⟩ = some (.int .i64 op) ∧ w'.cell? ⟨gs, q * 5 + 1, none⟩ = some (.int .i64 ia) ∧ w'.cell? ⟨gs, q * 5 + 2, none⟩ = some (.int .i64 tk) ∧ w'.cell? ⟨gs, q * 5 + 3, none⟩ = some (.int .i64 gv) ∧ w'.cell? ⟨gs, q * 5 + 4, none⟩ = some (.slice nao nl nc) ∧ w'.cell? ⟨gh, q, none⟩ = some (.int .i64 hq')) := fun w' hw =>
    ⟨hw.cell (HK.out.cell (cell_block _ _ 0 _ _ _ HBA.out) id) id, hw.cell (HK.out.cell (cell_block _ _ 1 _ _ _ HBA.out) id) id, hw.cell (hrg 0 _ rfl) id, hw.cell (hrg 1 _ rfl) id, hw.cell (hrg 2 _ rfl) id, hw.cell (hrg 3 _ rfl) id, hw.cell (hrg 4 _ rfl) id, hw.cell hch id⟩
   unfold ST.cells at HBE
   simp only at HBE
   clear hB hmem hq hch hrg hsm hnv HT hhr hkl hone
   go_upto_region 5 with fail
   clear hco
   refine wp_region_held_drew (S := fun w' => KF wr w') (by kernel_rfl) ((Kept.refl _ _).drew) (fun hHeld => ?_)
   generalize wr.drew = wd at *
   iterate 16
    refine tkn (v := ?_) 0 rfl ?_ ?_; rotate_left 1
    ·intro w hSw; obtain ⟨s0, s1, s2, s3, s4, s5, s6, s7⟩ := HSM.out w hSw; go_simp; try with_reducible rfl
    try simp only [Act.put, tdy]
   refine rdy 16 rfl (fun K hK => ?_)
   go_simp
   refine (HBE.out _).mono ?_
   rintro e w5 ⟨rfl, hk5⟩
   have HK5 := hid_of (hHeld.trans hk5)
   clear hk5
   have hmx := fun W => run_max3 W x hq' bq
   refine hK.out _ _ HK5.out (fun hHeld => ?_)
   clear hK K
   try simp only [Act.put, tdy]
   iterate 2
    refine tkn (v := ?_) 17 rfl ?_ ?_; rotate_left 1
    ·intro w hSw; go_simp; try with_reducible rfl
    try simp only [Act.put, tdy]
   refine wpAnyH_done (by kernel_rfl) ?_ _
   have HK6 := hid_of (HK.out.trans HK5.out)
   clear HSM HBE HK HK5 hHeld
   go_wp2
   go_roundw
   case rel => exact ⟨k + 1, _, by omega, rfl, by go_num, HK6, HTN⟩
   case measure => simp [intOf]; omega
  ·have e : k = m := by omega
   subst e
   have HX : Hid (tp = x) := by
    have := HT.out
    rw [List.drop_of_length_le (by rw [← HM.out]; omega)] at this
    exact this
   have HKF := hid_of (HKA.out.trans HK.out)
   clear HT HK
   go_wp2
   go_ret
   exact ⟨by rw [HX.out]; rfl, HKF.out⟩
structure TS where
 turns : List Int
 turn : Int
 opn : List Int
 order : List Int
 again : List Bool
def bools (l : List Bool) : List Value := l.map Value.bool
structure Tr (w wr : World) (N a : Nat) (nf : Value) (gt ct : Nat) (vo vr : Value) (ga ca : Nat) (σ : TS) : Prop where
 box : wr.heap[a]? = some (.cells #[nf, .slice (some ⟨gt, 0, none⟩) N ct, .int .i64 σ.turn, vo, vr, .slice (some ⟨ga, 0, none⟩) N ca] 118 (0, 0))
 tu : wr.ownsRow w.heap.size 3 1 (.slice (some ⟨gt, 0, none⟩) N ct) N (ints σ.turns)
 op : OwnN wr w.heap.size vo σ.opn
 od : OwnN wr w.heap.size vr σ.order
 ag : wr.ownsRow w.heap.size 4 1 (.slice (some ⟨ga, 0, none⟩) N ca) N (bools σ.again)
 tno : vo.ownBlock ≠ some gt
 tnd : vr.ownBlock ≠ some gt
 ond : ∀ q, vo.ownBlock = some q → vr.ownBlock ≠ some q
 kept : KF w wr
 low : w.heap.size ≤ a
theorem own_box2 {w : World} {base e s : Nat} {v : Value} {n : Nat} {xs : List Value} (h : w.ownsRow base e s v n xs) {B t : Nat} {cs : Array Value} (hb : w.heap[B]? = some (.cells cs t (0, 0))) (hne : t ≠ e) : v.ownBlock ≠ some B := fun hq => by
 rcases h.2 with ⟨rfl, _⟩ | ⟨g, cap, cur, rfl, _, hgg, _⟩
 ·cases hq
 ·simp [Value.ownBlock] at hq
  subst hq
  rw [hb] at hgg
  simp at hgg
  exact hne hgg.2
theorem own_two {w : World} {b e s b' e' s' : Nat} {v v' : Value} {n n' : Nat} {xs xs' : List Value} (h : w.ownsRow b e s v n xs) (h' : w.ownsRow b' e' s' v' n' xs') (hne : e ≠ e') : ∀ q, v.ownBlock = some q → v'.ownBlock ≠ some q := fun q hq hq' => by
 rcases h.2 with ⟨rfl, _⟩ | ⟨g, cap, cur, rfl, _, hgg, _⟩
 ·cases hq
 ·simp [Value.ownBlock] at hq
  subst hq
  exact own_box2 h' hgg hne hq'
section
variable {w wr w' : World} {N a : Nat} {nf : Value} {gt ct : Nat} {vo vr : Value} {ga ca : Nat} {σ : TS}
theorem Tr.same (h : Tr w wr N a nf gt ct vo vr ga ca σ) (hk : KF wr w') : Tr w w' N a nf gt ct vo vr ga ca σ :=
 ⟨box_kept hk h.box id, hk.ownsRow h.tu (fun _ _ f => f), hk.ownsRow h.op (fun _ _ f => f), hk.ownsRow h.od (fun _ _ f => f), hk.ownsRow h.ag (fun _ _ f => f), h.tno, h.tnd, h.ond, h.kept.trans hk, h.low⟩
theorem Tr.gta (h : Tr w wr N a nf gt ct vo vr ga ca σ) : gt ≠ a ∧ ga ≠ a ∧ gt ≠ ga := by
 refine ⟨fun e => own_box2 h.tu h.box (by decide) (by rw [e]; rfl), fun e => own_box2 h.ag h.box (by decide) (by rw [e]; rfl), fun e => own_two h.tu h.ag (by decide) gt rfl (by rw [e]; rfl)⟩
theorem Tr.opa (h : Tr w wr N a nf gt ct vo vr ga ca σ) : (vo.ownBlock ≠ some a ∧ vo.ownBlock ≠ some ga) ∧ vr.ownBlock ≠ some a ∧ vr.ownBlock ≠ some ga :=
 ⟨⟨own_box2 h.op h.box (by decide), fun e => own_two h.op h.ag (by decide) _ e rfl⟩, own_box2 h.od h.box (by decide), fun e => own_two h.od h.ag (by decide) _ e rfl⟩
theorem Tr.setT (h : Tr w wr N a nf gt ct vo vr ga ca σ) (i : Nat) (x : Int) : Tr w (wr.setCell ⟨gt, i, none⟩ (.int .i64 x)) N a nf gt ct vo vr ga ca { σ with turns := σ.turns.set i x } := by
 have hk := kept_set wr gt i (.int .i64 x)
 have h1 := h.gta
 refine ⟨box_kept hk h.box (fun e => h1.1 e.symm), ?_, hk.ownsRow h.op (fun q hq e => h.tno (by rw [hq, e])), hk.ownsRow h.od (fun q hq e => h.tnd (by rw [hq, e])), hk.ownsRow h.ag (fun q hq e => by simp [Value.ownBlock] at hq; exact h1.2.2 (by omega)), h.tno, h.tnd, h.ond, h.kept.step hk (fun j hj e => by have := (h.tu.lt gt rfl).1; omega), h.low⟩
 show World.ownsRow _ _ _ _ _ _ (ints (σ.turns.set i x))
 rw [show ints (σ.turns.set i x) = (ints σ.turns).set i (.int .i64 x) by simp [ints, List.map_set]]
 exact (World.ownsRow.stored h.tu i (.int .i64 x)).1
theorem Tr.setA (h : Tr w wr N a nf gt ct vo vr ga ca σ) (i : Nat) (x : Bool) : Tr w (wr.setCell ⟨ga, i, none⟩ (.bool x)) N a nf gt ct vo vr ga ca { σ with again := σ.again.set i x } := by
 have hk := kept_set wr ga i (.bool x)
 have h1 := h.gta
 have h2 := h.opa
 refine ⟨box_kept hk h.box (fun e => h1.2.1 e.symm), hk.ownsRow h.tu (fun q hq e => by simp [Value.ownBlock] at hq; exact h1.2.2 (by omega)), hk.ownsRow h.op (fun q hq e => h2.1.2 (by rw [hq, e])), hk.ownsRow h.od (fun q hq e => h2.2.2 (by rw [hq, e])), ?_, h.tno, h.tnd, h.ond, h.kept.step hk (fun j hj e => by have := (h.ag.lt ga rfl).1; omega), h.low⟩
 show World.ownsRow _ _ _ _ _ _ (bools (σ.again.set i x))
 rw [show bools (σ.again.set i x) = (bools σ.again).set i (.bool x) by simp [bools, List.map_set]]
 exact (World.ownsRow.stored h.ag i (.bool x)).1
theorem Tr.tAt (h : Tr w wr N a nf gt ct vo vr ga ca σ) (i : Nat) (hi : i < N) : wr.cell? ⟨gt, i, none⟩ = some (.int .i64 (σ.turns.getD i 0)) ∧ wr.frozen? ⟨gt, i, none⟩ = false := by
 have hl : σ.turns.length = N := by have := h.tu.1; rw [ints_len] at this; omega
 refine ⟨?_, World.ownsRow.frozenAt h.tu _⟩
 have := h.tu.cells rfl i (.int .i64 (σ.turns.getD i 0)) (by simp [ints, List.getD, List.getElem?_eq_getElem (show i < σ.turns.length by omega)])
 rwa [Addr.add_lit, Nat.zero_add] at this
theorem Tr.aAt (h : Tr w wr N a nf gt ct vo vr ga ca σ) (i : Nat) (hi : i < N) : wr.cell? ⟨ga, i, none⟩ = some (.bool (σ.again.getD i false)) ∧ wr.frozen? ⟨ga, i, none⟩ = false := by
 have hl : σ.again.length = N := by have := h.ag.1; simp [bools] at this; omega
 refine ⟨?_, World.ownsRow.frozenAt h.ag _⟩
 have := h.ag.cells rfl i (.bool (σ.again.getD i false)) (by simp [bools, List.getD, List.getElem?_eq_getElem (show i < σ.again.length by omega)])
 rwa [Addr.add_lit, Nat.zero_add] at this
theorem Tr.setN (h : Tr w wr N a nf gt ct vo vr ga ca σ) (x : Int) : Tr w (wr.setCell ⟨a, 2, none⟩ (.int .i64 x)) N a nf gt ct vo vr ga ca { σ with turn := x } := by
 have hk := kept_set wr a 2 (.int .i64 x)
 have h1 := h.gta
 have h2 := h.opa
 refine ⟨set_block _ _ 2 _ _ _ h.box _, hk.ownsRow h.tu (fun q hq e => by simp [Value.ownBlock] at hq; exact h1.1 (by omega)), hk.ownsRow h.op (fun q hq e => h2.1.1 (by rw [hq, e])), hk.ownsRow h.od (fun q hq e => h2.2.1 (by rw [hq, e])), hk.ownsRow h.ag (fun q hq e => by simp [Value.ownBlock] at hq; exact h1.2.1 (by omega)), h.tno, h.tnd, h.ond, h.kept.step hk (fun j hj e => by have := h.low; omega), h.low⟩
end
theorem app_num (W : World) (base : Nat) (v : Value) (l : List Int) (p : Addr) (m c : Nat) (ys : List Int) (hown : OwnN W base v l) (hm : ys.length = m) (hy : ∀ j, j < m → W.cell? (p.add j) = some (.int .i64 (ys.getD j 0))) (hsz : l.length + m ≤ 100000) (hb : base ≤ W.heap.size) :
  ∃ v' w', (Builtin.append_ #[30, 30] 30 #[v, .slice (some p) m c]).run Tryz.prog W = .ok v' w' ∧ OwnN w' base v' (l ++ ys) ∧ W.grownBy w' v.ownBlock ∧ (v'.ownBlock = v.ownBlock ∨ v'.ownBlock = some W.heap.size) := by
 obtain ⟨i0, hi, hz0, hz1, hz2⟩ := info_parts Tryz.info3
 obtain ⟨v', w', hr, h2, h3, h4, _⟩ := append_old (P := Tryz.prog) W base 30 30 3 i0 _ 1 8 Tryz.underlying30 hi hz0 hz1 hz2 rfl (by decide) v l.length (ints l) hown p m c (ints ys) (by rw [ints_len]; omega) (fun j u hj => by
  have hjl := (List.getElem?_eq_some_iff.1 hj).1
  rw [ints_len] at hjl
  rw [hy j (by omega)]
  simp only [ints, List.getElem?_map, List.getElem?_eq_getElem hjl] at hj
  simpa [List.getD, List.getElem?_eq_getElem hjl] using hj) (ints_one ys) (by unfold maxLen; omega) (by omega) hb
 refine ⟨v', w', hr, ?_, h3, h4⟩
 unfold OwnN
 rw [List.length_append, hm, show ints (l ++ ys) = ints l ++ ints ys by simp [ints]]
 exact h2
theorem push_num {w0 W : World} {v : Value} {l : List Int} (h : OwnN W w0.heap.size v l) (x : Int) (hk : KF w0 W) (hl : l.length ≤ 90000) :
  ∃ v' w', (Builtin.append_ #[30, 30] 30 #[v, .slice (some ⟨W.heap.size, 0, none⟩) 1 1]).run Tryz.prog (W.alloc (.cells #[.int .i64 x] 3)) = .ok v' w' ∧ OwnN w' w0.heap.size v' (l ++ [x]) ∧ KF w0 w' ∧ Kept (fun k => v.ownBlock = some k) W w' := by
 obtain ⟨v', w', hr, ho, hg, hb⟩ := app_num (W.alloc (.cells #[.int .i64 x] 3)) w0.heap.size v l ⟨W.heap.size, 0, none⟩ 1 1 [x] (h.alloc _) rfl (fun j hj => by
  have : j = 0 := by omega
  subst this
  rw [Addr.add_lit, cell_block _ _ _ _ _ _ (heap_alloc_new W _)]
  rfl) (by omega) (by have := hk.size; simp; omega)
 have hk1 : Kept (fun k => v.ownBlock = some k) W w' := ((Kept.refl _ W).alloc _).grown hg (fun k hk => .inr hk)
 exact ⟨v', w', hr, ho, hk.step hk1 (fun i hi e => by have := (h.lt i e).1; omega), hk1⟩
set_option maxHeartbeats 8000000 in
theorem calls_any (w : World) (base gs n : Nat) (hv lv ov : Value) (b : BD) (h : BdAt w base gs n hv lv ov b) (hok : BdOk n b) :
  Calls Tryz.prog 89 #[.agg #[.slice (some ⟨gs, 0, none⟩) n n, hv, lv, ov]] w fun e w' => ∃ v, e = .returned v ∧ OwnN w' w.heap.size v (callsP b) ∧ KF w w' := by
 have hkA : KF w (w.alloc (.cells #[.slice (some ⟨gs, 0, none⟩) n n, hv, lv, ov] 77)) := (Kept.refl _ _).alloc _
 have hbA := heap_alloc_new w (.cells #[.slice (some ⟨gs, 0, none⟩) n n, hv, lv, ov] 77)
 obtain ⟨oao, oc, hov⟩ := ownsRow_shape h.od
 obtain ⟨hao, hc, hhv⟩ := ownsRow_shape h.hs
 obtain ⟨lao, lc, hlv⟩ := ownsRow_shape h.lo
 obtain ⟨m, hm⟩ := nmd (b.order.length)
 rw [← hm] at hov
 rw [h.hl] at hhv
 obtain ⟨ll, hll⟩ := nmd (b.loops.length)
 rw [← hll] at hlv
 subst hov hhv hlv
 have b3 := cell_block _ _ 3 _ _ _ hbA
 have HKA := hid_of hkA
 have HBA := hid_of hbA
 have HB := hid_of h
 have HOK := hid_of hok
 have HM := hid_of hm
 have hmn : m ≤ 4096 := by have := hok.ol; have := hok.n1.2; omega
 have HL0 : Hid (OwnN (w.alloc (.cells #[.slice (some ⟨gs, 0, none⟩) n n, .slice hao n hc, .slice lao ll lc, .slice oao m oc] 77)) w.heap.size (.slice none 0 0) ((b.order.take 0).filter (fun m => decide ((b.ss.getD m.toNat st0).op = 17)))) := World.ownsRow_nil _ _ _ _
 clear h hok hm hll hkA hbA
 go_enter Tryz.func89, Tryz.ntmps89
 go_wp2
 clear b3
 generalize hgw : w.alloc (.cells #[.slice (some ⟨gs, 0, none⟩) n n, .slice hao n hc, .slice lao ll lc, .slice oao m oc] 77) = w1 at *
 clear hgw
 go_loopw [3, 9] (fun vv iv wr => ∃ (k : Nat), k ≤ m ∧ iv = .int .i64 (k : Int) ∧ Hid (OwnN wr w.heap.size vv ((b.order.take k).filter (fun m => decide ((b.ss.getD m.toNat st0).op = 17)))) ∧ Hid (KF w wr) ∧ Hid (wr.heap[w.heap.size]? = some (.cells #[.slice (some ⟨gs, 0, none⟩) n n, .slice hao n hc, .slice lao ll lc, .slice oao m oc] 77 (0, 0)))) (fun _ iv _ => m - (intOf iv).toNat)
 case atStart => exact ⟨0, by omega, rfl, HL0, HKA, HBA⟩
 case round =>
  clear HL0 HKA HBA
  obtain ⟨k, hk, rfl, HL, HK, HBX⟩ := hrel
  by_cases hlt : k < m
  ·have hltI : (k : Int) < (m : Int) := by omega
   have hkl : k < b.order.length := by rw [← HM.out]; exact hlt
   have hB := HB.out.same HK.out
   have hmem := getD_mem hkl
   obtain ⟨q, hq⟩ : ∃ q : Nat, b.order.getD k 0 = (q : Int) := ⟨(b.order.getD k 0).toNat, by have := (HOK.out.od _ hmem).1; omega⟩
   have hqn : q < n := by have := (HOK.out.od _ hmem).2; omega
   have hqI : (q : Int) < (n : Int) := by omega
   obtain ⟨go, co, e1, hco⟩ := own_look hB.od hkl
   simp only [Value.slice.injEq] at e1
   obtain ⟨rfl, hx8, rfl⟩ := e1
   clear hx8
   rw [hq] at hco
   obtain ⟨nv, hrg, hone, hsm, hnv⟩ := ss_look hB hqn
   have b0 := cell_block _ _ 0 _ _ _ HBX.out
   have hop : wr.cell? ⟨gs, q * 5, none⟩ = some (.int .i64 (b.ss.getD q st0).op) := hrg 0 _ rfl
   have HTK : Hid (b.order.take (k + 1) = b.order.take k ++ [(q : Int)]) := by
    unfold Hid
    rw [List.take_add_one, List.getElem?_eq_getElem hkl, ← hq]
    simp [List.getD, List.getElem?_eq_getElem hkl]
   have hfl : ((b.order.take k).filter (fun m => decide ((b.ss.getD m.toNat st0).op = 17))).length ≤ 4096 := by
    have h1 := List.length_filter_le (fun m : Int => decide ((b.ss.getD m.toNat st0).op = 17)) (b.order.take k)
    rw [List.length_take] at h1
    omega
   have HFL := hid_of hfl
   obtain ⟨vao, vc, hvv⟩ := ownsRow_shape HL.out
   obtain ⟨nl, hnl⟩ := nmd (((b.order.take k).filter (fun m => decide ((b.ss.getD m.toNat st0).op = 17))).length)
   rw [← hnl] at hvv
   subst hvv
   clear hB hmem hq hrg hone hsm hnv hkl hfl hnl
   by_cases h17 : (b.ss.getD q st0).op = 17
   ·obtain ⟨v', w', hr, ho, hk0, hk1⟩ := push_num HL.out (q : Int) HK.out (by have := HFL.out; omega)
    have HR := hid_of hr
    have HO : Hid (OwnN w' w.heap.size v' ((b.order.take (k + 1)).filter (fun m => decide ((b.ss.getD m.toNat st0).op = 17)))) := by
     unfold Hid
     rw [HTK.out, List.filter_append]
     simp only [List.filter_cons, Int.toNat_natCast, h17, decide_true, if_true, List.filter_nil]
     exact ho
    have HK' := hid_of hk0
    have HBX' := hid_of (box_kept hk1 HBX.out (fun e => own_box2 HL.out HBX.out (by decide) e))
    obtain ⟨ao', c', hv'⟩ := ownsRow_shape ho
    generalize (List.filter (fun m => decide ((b.ss.getD m.toNat st0).op = 17)) (b.order.take k) ++ [(q : Int)]).length = nl' at hv'
    subst hv'
    rw [h17] at hop
    clear h17 hr ho hk0 hk1
    go_wp2_with (at_builtin; refine wp_app2 rfl (.tmp 21) (.tmp 23) 30 30 rfl _ _ rfl rfl _ w' HR.out ?_)
    go_roundw
    case rel => exact ⟨k + 1, by omega, by go_num, HO, HK', HBX'⟩
    case measure => simp [intOf]; omega
   ·have HO : Hid (OwnN wr w.heap.size (.slice vao nl vc) ((b.order.take (k + 1)).filter (fun m => decide ((b.ss.getD m.toNat st0).op = 17)))) := by
     unfold Hid
     rw [HTK.out, List.filter_append]
     simp only [List.filter_cons, Int.toNat_natCast, h17, decide_false, Bool.false_eq_true, if_false, List.filter_nil, List.append_nil]
     exact HL.out
    generalize (b.ss.getD q st0).op = op at *
    have h17b : (op == 17) = false := by simp; exact h17
    go_wp2
    go_roundw
    case rel => exact ⟨k + 1, by omega, by go_num, HO, HK, HBX⟩
    case measure => simp [intOf]; omega
  ·have e : k = m := by omega
   subst e
   have HO : Hid (OwnN wr w.heap.size u3 (callsP b)) := by
    have := HL.out
    rw [List.take_of_length_le (by rw [← HM.out]; omega)] at this
    exact this
   clear HL
   go_wp2
   go_ret
   exact ⟨_, rfl, HO.out, HK.out⟩
def nameF (b : BD) (l : List Int) (m : Int) : List Int := if (b.ss.getD m.toNat st0).a ∈ l then l else l ++ [(b.ss.getD m.toNat st0).a]
def namedP (b : BD) : List Int := (callsP b).foldl (nameF b) []
theorem nameF_len (b : BD) (l : List Int) (m : Int) : (nameF b l m).length ≤ l.length + 1 := by
 unfold nameF
 split
 ·omega
 ·simp
theorem named_len (b : BD) : ∀ (ms l : List Int), (ms.foldl (nameF b) l).length ≤ l.length + ms.length
 | [], l => by simp
 | m :: ms, l => by
  have h1 := named_len b ms (nameF b l m)
  have h2 := nameF_len b l m
  simp only [List.foldl_cons, List.length_cons]
  omega
theorem callsP_mem (b : BD) (m : Int) (h : m ∈ callsP b) : m ∈ b.order := (List.mem_filter.1 h).1
theorem callsP_len (b : BD) : (callsP b).length ≤ b.order.length := List.length_filter_le _ _
set_option maxHeartbeats 8000000 in
theorem named_any (w : World) (base gs n : Nat) (hv lv ov : Value) (b : BD) (h : BdAt w base gs n hv lv ov b) (hok : BdOk n b) :
  Calls Tryz.prog 65 #[.agg #[.slice (some ⟨gs, 0, none⟩) n n, hv, lv, ov]] w fun e w' => ∃ v, e = .returned v ∧ OwnN w' w.heap.size v (namedP b) ∧ KF w w' := by
 have HCA := hid_of (fun W (hW : KF w W) => calls_any W base gs n hv lv ov b (h.same hW) hok)
 have hkA : KF w (w.alloc (.cells #[.slice (some ⟨gs, 0, none⟩) n n, hv, lv, ov] 77)) := (Kept.refl _ _).alloc _
 have hbA := heap_alloc_new w (.cells #[.slice (some ⟨gs, 0, none⟩) n n, hv, lv, ov] 77)
 obtain ⟨oao, oc, hov⟩ := ownsRow_shape h.od
 obtain ⟨hao, hc, hhv⟩ := ownsRow_shape h.hs
 obtain ⟨lao, lc, hlv⟩ := ownsRow_shape h.lo
 obtain ⟨m, hm⟩ := nmd (b.order.length)
 rw [← hm] at hov
 rw [h.hl] at hhv
 obtain ⟨ll, hll⟩ := nmd (b.loops.length)
 rw [← hll] at hlv
 subst hov hhv hlv
 have c0 := cell_block _ _ 0 _ _ _ hbA
 have c1 := cell_block _ _ 1 _ _ _ hbA
 have c2 := cell_block _ _ 2 _ _ _ hbA
 have c3 := cell_block _ _ 3 _ _ _ hbA
 have HCA1 := hid_of (HCA.out _ hkA)
 have HKA := hid_of hkA
 have HBA := hid_of hbA
 have HB := hid_of h
 have HOK := hid_of hok
 have hmn : m ≤ 4096 := by have := hok.ol; have := hok.n1.2; omega
 have HCL : Hid ((callsP b).length ≤ 4096) := by have := callsP_len b; unfold Hid; omega
 clear h hok hm hll hkA hbA HCA
 go_enter Tryz.func65, Tryz.ntmps65
 go_wp2_with fail
 refine HCA1.out.mono ?_
 rintro e w2 ⟨cv, rfl, hocv, hk2⟩
 obtain ⟨cao, cc, hcv⟩ := ownsRow_shape hocv
 obtain ⟨mc, hmc⟩ := nmd ((callsP b).length)
 rw [← hmc] at hcv
 subst hcv
 have HMC := hid_of hmc
 have HCV := hid_of hocv
 have HK2 := hid_of (HKA.out.trans hk2)
 have HBX2 := hid_of (box_kept hk2 HBA.out id)
 have hmc4 : mc ≤ 4096 := by have := HCL.out; omega
 have HL0 : Hid (OwnN w2 w2.heap.size (.slice none 0 0) (((callsP b).take 0).foldl (nameF b) [])) := World.ownsRow_nil _ _ _ _
 have HK0 := hid_of (Kept.refl (fun _ => False) w2)
 clear hocv hk2 hmc HKA HBA HCA1 c0 c1 c2 c3
 go_wp2
 go_loopw [3, 10] (fun vv iv wr => ∃ (k : Nat), k ≤ mc ∧ iv = .int .i64 (k : Int) ∧ Hid (OwnN wr w2.heap.size vv (((callsP b).take k).foldl (nameF b) [])) ∧ Hid (KF w2 wr)) (fun _ iv _ => mc - (intOf iv).toNat)
 case atStart => exact ⟨0, by omega, rfl, HL0, HK0⟩
 case round =>
  clear HL0 HK0
  obtain ⟨k, hk, rfl, HL, HK⟩ := hrel
  by_cases hlt : k < mc
  ·have hltI : (k : Int) < (mc : Int) := by omega
   have hkl : k < (callsP b).length := by rw [← HMC.out]; exact hlt
   have hB := HB.out.same (HK2.out.trans HK.out)
   have hmem := getD_mem hkl
   have hmo := callsP_mem b _ hmem
   obtain ⟨q, hq⟩ : ∃ q : Nat, (callsP b).getD k 0 = (q : Int) := ⟨((callsP b).getD k 0).toNat, by have := (HOK.out.od _ hmo).1; omega⟩
   have hqn : q < n := by have := (HOK.out.od _ hmo).2; omega
   have hqI : (q : Int) < (n : Int) := by omega
   obtain ⟨go, co, e1, hco⟩ := own_look (HK.out.ownsRow HCV.out (fun _ _ f => f)) hkl
   simp only [Value.slice.injEq] at e1
   obtain ⟨rfl, hx8, rfl⟩ := e1
   clear hx8
   rw [hq] at hco
   obtain ⟨nv, hrg, hone, hsm, hnv⟩ := ss_look hB hqn
   have b0 := cell_block _ _ 0 _ _ _ (box_kept HK.out HBX2.out id)
   have hop : wr.cell? ⟨gs, q * 5 + 1, none⟩ = some (.int .i64 (b.ss.getD q st0).a) := hrg 1 _ rfl
   have HTK : Hid (((callsP b).take (k + 1)).foldl (nameF b) [] = nameF b (((callsP b).take k).foldl (nameF b) []) (q : Int)) := by
    unfold Hid
    rw [List.take_add_one, List.getElem?_eq_getElem hkl, List.foldl_append]
    have : (callsP b)[k] = (q : Int) := by rw [← hq]; simp [List.getD, List.getElem?_eq_getElem hkl]
    rw [this]
    rfl
   have hll := named_len b ((callsP b).take k) []
   rw [List.length_take] at hll
   simp only [List.length_nil] at hll
   obtain ⟨vao, vc, hvv⟩ := ownsRow_shape HL.out
   generalize hfd : ((callsP b).take k).foldl (nameF b) [] = l at *
   obtain ⟨nl, hnl⟩ := nmd (l.length)
   rw [← hnl] at hvv
   subst hvv
   have HLL : Hid (l.length ≤ 4096) := by unfold Hid; omega
   have HNF : Hid (nameF b l (q : Int) = if (b.ss.getD q st0).a ∈ l then l else l ++ [(b.ss.getD q st0).a]) := by unfold Hid nameF; rw [Int.toNat_natCast]
   generalize (b.ss.getD q st0).a = xa at *
   have HCO := hid_of (contains_any (.slice vao nl vc) l xa wr w2.heap.size HL.out (by have := HLL.out; omega))
   clear hB hmem hmo hq hrg hone hsm hnv hkl hll hnl hfd
   by_cases hx : xa ∈ l
   ·rw [decide_eq_true hx] at HCO
    rw [HNF.out, if_pos hx] at HTK
    have HL' : Hid (OwnN wr w2.heap.size (.slice vao nl vc) (((callsP b).take (k + 1)).foldl (nameF b) [])) := by unfold Hid; rw [HTK.out]; exact HL.out
    clear hx HTK
    go_wp2_with fail
    refine HCO.out.mono ?_
    rintro e w5 ⟨rfl, hw5⟩
    have hw5 := hw5.symm
    subst hw5
    clear hco b0 hop HCO
    go_wp2
    go_roundw
    case rel => exact ⟨k + 1, by omega, by go_num, HL', HK⟩
    case measure => simp [intOf]; omega
   ·rw [decide_eq_false hx] at HCO
    rw [HNF.out, if_neg hx] at HTK
    obtain ⟨v', w', hr, ho, hk0, hk1⟩ := push_num HL.out xa HK.out (by have := HLL.out; omega)
    have HR := hid_of hr
    have HL' : Hid (OwnN w' w2.heap.size v' (((callsP b).take (k + 1)).foldl (nameF b) [])) := by unfold Hid; rw [HTK.out]; exact ho
    have HK' := hid_of hk0
    obtain ⟨ao', c', hv'⟩ := ownsRow_shape ho
    generalize (l ++ [xa]).length = nl' at hv'
    subst hv'
    clear hx HTK hr ho hk0 hk1
    go_wp2_with fail
    refine HCO.out.mono ?_
    rintro e w5 ⟨rfl, hw5⟩
    have hw5 := hw5.symm
    subst hw5
    clear hco b0 hop HCO
    go_wp2_with (at_builtin; refine wp_app2 rfl (.tmp 25) (.tmp 27) 30 30 rfl _ _ rfl rfl _ w' HR.out ?_)
    go_roundw
    case rel => exact ⟨k + 1, by omega, by go_num, HL', HK'⟩
    case measure => simp [intOf]; omega
  ·have e : k = mc := by omega
   subst e
   have HO : Hid (OwnN wr w.heap.size u3 (namedP b)) := by
    have := HL.out
    rw [List.take_of_length_le (by rw [← HMC.out]; omega)] at this
    exact own_mono this HK2.out.size
   have HKF := hid_of (HK2.out.trans HK.out)
   clear HL
   go_wp2
   go_ret
   exact ⟨_, rfl, HO.out, HKF.out⟩
theorem run_max2 (w : World) (x y : Int) : (Builtin.max_ #[3, 3] 3 #[.int .i64 x, .int .i64 y]).run Tryz.prog w = .ok (.int .i64 (max2 x y)) w := by
 simp [Builtin.max_, Builtin.max2, YtcaadgcfceommaaGreat.max2]
def cellF (b : BD) (others : List Int) (t m : Int) : Int := max2 t (wrap64 (wrap64 (b.hs.getD m.toNat 0 - (b.ss.getD m.toNat st0).tk) + others.getD (b.ss.getD m.toNat st0).a.toNat 0))
def cellsP (b : BD) (locals : Int) (others : List Int) : Int := wrap64 (wrap64 (1 + locals) + (callsP b).foldl (cellF b others) (topP b))
set_option maxHeartbeats 8000000 in
theorem cells_any (w : World) (base gs n : Nat) (hv lv ov : Value) (b : BD) (h : BdAt w base gs n hv lv ov b) (hok : BdOk n b) (locals : Int) (oth : Value) (others : List Int) (base2 : Nat) (hoth : OwnN w base2 oth others)
  (hcl : ∀ m ∈ callsP b, 0 ≤ (b.ss.getD m.toNat st0).a ∧ (b.ss.getD m.toNat st0).a < others.length) (hol : others.length ≤ 5000) :
  Calls Tryz.prog 92 #[.agg #[.slice (some ⟨gs, 0, none⟩) n n, hv, lv, ov], .int .i64 locals, oth] w fun e w' => e = .returned (.int .i64 (cellsP b locals others)) ∧ KF w w' := by
 have HCA := hid_of (fun W (hW : KF w W) => calls_any W base gs n hv lv ov b (h.same hW) hok)
 have HTA := hid_of (fun W (hW : KF w W) => top_any W base gs n hv lv ov b (h.same hW) hok)
 have hkA : KF w (w.alloc (.cells #[.slice (some ⟨gs, 0, none⟩) n n, hv, lv, ov] 77)) := (Kept.refl _ _).alloc _
 have hbA := heap_alloc_new w (.cells #[.slice (some ⟨gs, 0, none⟩) n n, hv, lv, ov] 77)
 obtain ⟨oao, oc, hov⟩ := ownsRow_shape h.od
 obtain ⟨hao, hc, hhv⟩ := ownsRow_shape h.hs
 obtain ⟨lao, lc, hlv⟩ := ownsRow_shape h.lo
 obtain ⟨m, hm⟩ := nmd (b.order.length)
 rw [← hm] at hov
 rw [h.hl] at hhv
 obtain ⟨ll, hll⟩ := nmd (b.loops.length)
 rw [← hll] at hlv
 subst hov hhv hlv
 obtain ⟨tao, tc, htv⟩ := ownsRow_shape hoth
 obtain ⟨nf, hnf⟩ := nmd (others.length)
 rw [← hnf] at htv
 subst htv
 have HNF := hid_of hnf
 have HOT := hid_of hoth
 have HCLS := hid_of hcl
 have hnf5 : nf ≤ 5000 := by omega
 have c0 := cell_block _ _ 0 _ _ _ hbA
 have c1 := cell_block _ _ 1 _ _ _ hbA
 have c2 := cell_block _ _ 2 _ _ _ hbA
 have c3 := cell_block _ _ 3 _ _ _ hbA
 have HTA1 := hid_of (HTA.out _ hkA)
 have HKA := hid_of hkA
 have HBA := hid_of hbA
 have HB := hid_of h
 have HOK := hid_of hok
 have hmn : m ≤ 4096 := by have := hok.ol; have := hok.n1.2; omega
 have HCL : Hid ((callsP b).length ≤ 4096) := by have := callsP_len b; unfold Hid; omega
 have HCP : Hid (∀ t, t = (callsP b).foldl (cellF b others) (topP b) → wrap64 (wrap64 (1 + locals) + t) = cellsP b locals others) := by
  unfold Hid
  rintro t rfl
  rfl
 generalize cellsP b locals others = res at *
 clear h hok hm hll hkA hbA HTA hoth hcl hol hnf
 go_enter Tryz.func92, Tryz.ntmps92
 go_wp2_with fail
 refine HTA1.out.mono ?_
 rintro e w1 ⟨rfl, hk1⟩
 have hk1b := HKA.out.trans hk1
 have hb1 := box_kept hk1 HBA.out id
 have HCA1 := hid_of (HCA.out _ hk1b)
 have HK1 := hid_of hk1b
 have HBX1 := hid_of hb1
 have HTP : Hid ((callsP b).foldl (cellF b others) (topP b) = ((callsP b).drop 0).foldl (cellF b others) (topP b)) := rfl
 obtain ⟨tp, htp⟩ := nmd ((callsP b).foldl (cellF b others) (topP b))
 rw [← htp] at HTP
 have HRS := hid_of (HCP.out tp htp)
 clear HCP htp
 generalize topP b = t0 at *
 clear c0 c1 c2 c3
 have c0 := cell_block _ _ 0 _ _ _ hb1
 have c1 := cell_block _ _ 1 _ _ _ hb1
 have c2 := cell_block _ _ 2 _ _ _ hb1
 have c3 := cell_block _ _ 3 _ _ _ hb1
 clear hk1 hk1b hb1 HTA1 HKA HBA HCA
 go_wp2_with fail
 refine HCA1.out.mono ?_
 rintro e w2 ⟨cv, rfl, hocv, hk2⟩
 obtain ⟨cao, cc, hcv⟩ := ownsRow_shape hocv
 obtain ⟨mc, hmc⟩ := nmd ((callsP b).length)
 rw [← hmc] at hcv
 subst hcv
 have HMC := hid_of hmc
 have HCV := hid_of hocv
 have HK2 := hid_of (HK1.out.trans hk2)
 have HBX2 := hid_of (box_kept hk2 HBX1.out id)
 have hmc4 : mc ≤ 4096 := by have := HCL.out; omega
 have HK0 := hid_of (Kept.refl (fun _ => False) w2)
 clear hocv hk2 hmc HBX1 HCA1 c0 c1 c2 c3
 generalize w.heap.size = gb at *
 go_wp2
 go_loopw [7, 16] (fun tv iv wr => ∃ (k : Nat) (x : Int), k ≤ mc ∧ tv = .int .i64 x ∧ iv = .int .i64 (k : Int) ∧ Hid (tp = ((callsP b).drop k).foldl (cellF b others) x) ∧ Hid (KF w2 wr)) (fun _ iv _ => mc - (intOf iv).toNat)
 case atStart => exact ⟨0, t0, by omega, rfl, rfl, HTP, HK0⟩
 case round =>
  clear HTP HK0
  obtain ⟨k, x, hk, rfl, rfl, HT, HK⟩ := hrel
  by_cases hlt : k < mc
  ·have hltI : (k : Int) < (mc : Int) := by omega
   have hkl : k < (callsP b).length := by rw [← HMC.out]; exact hlt
   have hB := HB.out.same (HK2.out.trans HK.out)
   have hmem := getD_mem hkl
   have hmo := callsP_mem b _ hmem
   obtain ⟨q, hq⟩ : ∃ q : Nat, (callsP b).getD k 0 = (q : Int) := ⟨((callsP b).getD k 0).toNat, by have := (HOK.out.od _ hmo).1; omega⟩
   have hqn : q < n := by have := (HOK.out.od _ hmo).2; omega
   have hqI : (q : Int) < (n : Int) := by omega
   have hcl := HCLS.out _ hmem
   rw [hq, Int.toNat_natCast] at hcl
   obtain ⟨go, co, e1, hco⟩ := own_look (HK.out.ownsRow HCV.out (fun _ _ f => f)) hkl
   simp only [Value.slice.injEq] at e1
   obtain ⟨rfl, hx8, rfl⟩ := e1
   clear hx8
   rw [hq] at hco
   obtain ⟨gh, ch, e2, hch⟩ := own_look hB.hs (i := q) (by rw [hB.hl]; exact hqn)
   simp only [Value.slice.injEq] at e2
   obtain ⟨rfl, hx9, rfl⟩ := e2
   clear hx9
   obtain ⟨nv, hrg, hone, hsm, hnv⟩ := ss_look hB hqn
   obtain ⟨nao, nc, hnvs⟩ := ownsRow_shape hnv
   generalize (b.ss.getD q st0).nx.length = nl at hnvs
   subst hnvs
   obtain ⟨ia, hia⟩ : ∃ ia : Nat, (b.ss.getD q st0).a = (ia : Int) := ⟨(b.ss.getD q st0).a.toNat, by omega⟩
   obtain ⟨gt, ct, e3, hct⟩ := own_look ((HK2.out.trans HK.out).ownsRow HOT.out (fun _ _ f => f)) (i := ia) (by omega)
   simp only [Value.slice.injEq] at e3
   obtain ⟨rfl, hx7, rfl⟩ := e3
   clear hx7
   have hiaI : (ia : Int) < (nf : Int) := by rw [HNF.out]; omega
   have HTN : Hid (tp = ((callsP b).drop (k + 1)).foldl (cellF b others) (max2 x (wrap64 (wrap64 (b.hs.getD q 0 - (b.ss.getD q st0).tk) + others.getD ia 0)))) := by
    unfold Hid
    rw [HT.out, List.drop_eq_getElem_cons hkl]
    have e : (callsP b)[k] = (q : Int) := by rw [← hq]; simp [List.getD, List.getElem?_eq_getElem hkl]
    rw [e]
    show List.foldl _ (cellF b others x (q : Int)) _ = _
    unfold cellF
    rw [Int.toNat_natCast, hia, Int.toNat_natCast]
   have b0 := cell_block _ _ 0 _ _ _ (box_kept HK.out HBX2.out id)
   have b1 := cell_block _ _ 1 _ _ _ (box_kept HK.out HBX2.out id)
   generalize b.hs.getD q 0 = hq' at *
   generalize others.getD ia 0 = oq at *
   generalize b.ss.getD q st0 = sq at *
   obtain ⟨op, ja, tk, gv, nx⟩ := sq
   have hia' : ja = (ia : Int) := hia
   subst hia'
   have r0 : wr.cell? ⟨gs, q * 5, none⟩ = some (.int .i64 op) := hrg 0 _ rfl
   have r1 : wr.cell? ⟨gs, q * 5 + 1, none⟩ = some (.int .i64 (ia : Int)) := hrg 1 _ rfl
   have r2 : wr.cell? ⟨gs, q * 5 + 2, none⟩ = some (.int .i64 tk) := hrg 2 _ rfl
   have r3 : wr.cell? ⟨gs, q * 5 + 3, none⟩ = some (.int .i64 gv) := hrg 3 _ rfl
   have r4 : wr.cell? ⟨gs, q * 5 + 4, none⟩ = some (.slice nao nl nc) := hrg 4 _ rfl
   have hkN : KF wr (wr.alloc (.cells #[.int .i64 op, .int .i64 (ia : Int), .int .i64 tk, .int .i64 gv, .slice nao nl nc] 115)) := (Kept.refl _ _).alloc _
   have hbN := heap_alloc_new wr (.cells #[.int .i64 op, .int .i64 (ia : Int), .int .i64 tk, .int .i64 gv, .slice nao nl nc] 115)
   have n1 := cell_block _ _ 1 _ _ _ hbN
   have n2 := cell_block _ _ 2 _ _ _ hbN
   have d1 := hkN.cell b1 id
   have d2 := hkN.cell hch id
   have d3 := hkN.cell hct id
   have HKN := hid_of (HK.out.trans hkN)
   have hmx := fun W => run_max2 W x (wrap64 (wrap64 (hq' - tk) + oq))
   clear hB hmem hmo hq hrg hone hsm hnv hkl hkN hbN hcl hch hct hia HT HK
   go_upto_region 6 with fail
   clear hco r0 r1 r2 r3 r4 b0 b1
   go_quiet (fail)
   go_wp2
   go_roundw
   case rel => exact ⟨k + 1, _, by omega, rfl, by go_num, HTN, hid_of (kept_drewN HKN.out _)⟩
   case measure => simp [intOf]; omega
  ·have e : k = mc := by omega
   subst e
   have HX : Hid (tp = x) := by
    have := HT.out
    rw [List.drop_of_length_le (by rw [← HMC.out]; omega)] at this
    exact this
   have HKF := hid_of (HK2.out.trans HK.out)
   clear HT HK
   go_wp2
   go_ret
   refine ⟨?_, HKF.out⟩
   rw [← HRS.out, HX.out]
   rfl
end Go.Proofs.YtcaadgcfceommaaGreat

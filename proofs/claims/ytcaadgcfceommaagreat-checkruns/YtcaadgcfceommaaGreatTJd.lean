import Derived.Test.YtcaadgcfceommaaGreatTJa
import Derived.Test.YtcaadgcfceommaaGreatTLo
import Derived.Test.YtcaadgcfceommaaGreatTLl
import Derived.Test.YtcaadgcfceommaaGreatTNf
import Derived.Test.YtcaadgcfceommaaGreatTHe0
namespace Go.Proofs.YtcaadgcfceommaaGreat
open Go.RowKit
set_option linter.unusedVariables false
set_option linter.unusedSimpArgs false
set_option maxRecDepth 100000
structure LkAt (w : World) (base g gh gw n : Nat) (C : Array Value) (hs : List Int) (ws : List Bool) : Prop where
 box : w.heap[g]? = some (.cells C 127 (0, 0))
 hh : w.ownsRow base 3 1 (.slice (some ⟨gh, 0, none⟩) n n) n (ints hs)
 ww : w.ownsRow base 4 1 (.slice (some ⟨gw, 0, none⟩) n n) n (bools ws)
 hl : hs.length = n
 wl : ws.length = n
theorem LkAt.apart {w : World} {base g gh gw n : Nat} {C : Array Value} {hs : List Int} {ws : List Bool} (h : LkAt w base g gh gw n C hs ws) : g ≠ gh ∧ g ≠ gw ∧ gh ≠ gw := by
 have key : ∀ {e : Nat} {k : Nat} {xs : List Value}, w.ownsRow base e 1 (.slice (some ⟨k, 0, none⟩) n n) n xs → ∃ cs, w.heap[k]? = some (.cells cs e (0, 0)) := fun {e k xs} ho => by
  rcases ho.2 with ⟨h', _⟩ | ⟨g', cap', cur, h', _, hg, _⟩
  ·simp at h'
  ·simp only [Value.slice.injEq, Option.some.injEq, Addr.mk.injEq, and_true, true_and] at h'
   obtain ⟨rfl, _⟩ := h'
   exact ⟨_, hg⟩
 obtain ⟨c1, h1⟩ := key h.hh
 obtain ⟨c2, h2⟩ := key h.ww
 have h3 := h.box
 refine ⟨fun e => ?_, fun e => ?_, fun e => ?_⟩
 ·subst e; rw [h1] at h3; simp at h3
 ·subst e; rw [h2] at h3; simp at h3
 ·subst e; rw [h1] at h2; simp at h2
theorem LkAt.kept {S : Nat → Prop} {w w' : World} {base g gh gw n : Nat} {C : Array Value} {hs : List Int} {ws : List Bool} (h : LkAt w base g gh gw n C hs ws) (hk : Kept S w w') (h1 : ¬ S g) (h2 : ¬ S gh) (h3 : ¬ S gw) : LkAt w' base g gh gw n C hs ws :=
 ⟨box_kept hk h.box h1, hk.ownsRow h.hh (fun q hq => by simp [Value.ownBlock] at hq; subst hq; exact h2), hk.ownsRow h.ww (fun q hq => by simp [Value.ownBlock] at hq; subst hq; exact h3), h.hl, h.wl⟩
theorem LkAt.same {w w' : World} {base g gh gw n : Nat} {C : Array Value} {hs : List Int} {ws : List Bool} (h : LkAt w base g gh gw n C hs ws) (hk : KF w w') : LkAt w' base g gh gw n C hs ws := h.kept hk id id id
theorem LkAt.setH {w : World} {base g gh gw n : Nat} {C : Array Value} {hs : List Int} {ws : List Bool} (h : LkAt w base g gh gw n C hs ws) (i : Nat) (x : Int) : LkAt (w.setCell ⟨gh, i, none⟩ (.int .i64 x)) base g gh gw n C (hs.set i x) ws := by
 obtain ⟨a1, a2, a3⟩ := h.apart
 have hk := kept_set w gh i (.int .i64 x)
 have h9 := h.kept (w' := w.setCell ⟨gh, i, none⟩ (.int .i64 x)) (S := fun _ => False) 
 refine ⟨box_kept hk h.box (fun e => a1 e), ?_, hk.ownsRow h.ww (fun q hq e => by simp [Value.ownBlock] at hq; omega), by rw [List.length_set]; exact h.hl, h.wl⟩
 rw [show ints (hs.set i x) = (ints hs).set i (.int .i64 x) by simp [ints, List.map_set]]
 exact (World.ownsRow.stored h.hh i (.int .i64 x)).1
theorem LkAt.setW {w : World} {base g gh gw n : Nat} {C : Array Value} {hs : List Int} {ws : List Bool} (h : LkAt w base g gh gw n C hs ws) (i : Nat) (x : Bool) : LkAt (w.setCell ⟨gw, i, none⟩ (.bool x)) base g gh gw n C hs (ws.set i x) := by
 obtain ⟨a1, a2, a3⟩ := h.apart
 have hk := kept_set w gw i (.bool x)
 refine ⟨box_kept hk h.box (fun e => a2 e), hk.ownsRow h.hh (fun q hq e => by simp [Value.ownBlock] at hq; omega), ?_, h.hl, by rw [List.length_set]; exact h.wl⟩
 rw [show bools (ws.set i x) = (bools ws).set i (.bool x) by simp [bools, List.map_set]]
 exact (World.ownsRow.stored h.ww i (.bool x)).1
theorem LkAt.cellH {w : World} {base g gh gw n : Nat} {C : Array Value} {hs : List Int} {ws : List Bool} (h : LkAt w base g gh gw n C hs ws) {i : Nat} (hi : i < n) : w.cell? ⟨gh, i, none⟩ = some (.int .i64 (hs.getD i 0)) ∧ w.frozen? ⟨gh, i, none⟩ = false := by
 refine ⟨?_, ?_⟩
 ·rw [h.hh.cellAt _ (by omega)]
  simp [ints, List.getD, List.getElem?_eq_getElem (show i < hs.length by rw [h.hl]; exact hi)]
 ·rcases h.hh.2 with ⟨h', _⟩ | ⟨g', cap', cur, h', _, hg, _⟩
  ·simp at h'
  ·simp only [Value.slice.injEq, Option.some.injEq, Addr.mk.injEq, and_true, true_and] at h'
   obtain ⟨rfl, _⟩ := h'
   exact frozen_block _ _ _ _ _ hg
theorem LkAt.cellW {w : World} {base g gh gw n : Nat} {C : Array Value} {hs : List Int} {ws : List Bool} (h : LkAt w base g gh gw n C hs ws) {i : Nat} (hi : i < n) : w.cell? ⟨gw, i, none⟩ = some (.bool (ws.getD i false)) ∧ w.frozen? ⟨gw, i, none⟩ = false := by
 refine ⟨?_, ?_⟩
 ·rw [h.ww.cellAt _ (by omega)]
  simp [bools, List.getD, List.getElem?_eq_getElem (show i < ws.length by rw [h.wl]; exact hi)]
 ·rcases h.ww.2 with ⟨h', _⟩ | ⟨g', cap', cur, h', _, hg, _⟩
  ·simp at h'
  ·simp only [Value.slice.injEq, Option.some.injEq, Addr.mk.injEq, and_true, true_and] at h'
   obtain ⟨rfl, _⟩ := h'
   exact frozen_block _ _ _ _ _ hg
theorem look6k {w : World} {g : Nat} {t : TypeId} {a b c d e f : Value} (h : w.heap[g]? = some (.cells #[a, b, c, d, e, f] t (0, 0))) : w.cell? ⟨g, 0, none⟩ = some a ∧ w.cell? ⟨g, 1, none⟩ = some b ∧ w.cell? ⟨g, 2, none⟩ = some c ∧ w.cell? ⟨g, 3, none⟩ = some d ∧ w.cell? ⟨g, 4, none⟩ = some e ∧ w.cell? ⟨g, 5, none⟩ = some f :=
 ⟨cell_block _ _ 0 _ _ _ h, cell_block _ _ 1 _ _ _ h, cell_block _ _ 2 _ _ _ h, cell_block _ _ 3 _ _ _ h, cell_block _ _ 4 _ _ _ h, cell_block _ _ 5 _ _ _ h⟩
theorem store2 (w : World) (g : Nat) (t : TypeId) (a b x y : Value) (h : w.heap[g]? = some (.cells #[a, b] t (0, 0))) :
  ((w.setCell ⟨g, 0, none⟩ x).setCell ⟨g, 1, none⟩ y).heap[g]? = some (.cells #[x, y] t (0, 0)) ∧ Kept (fun k => k = g) w ((w.setCell ⟨g, 0, none⟩ x).setCell ⟨g, 1, none⟩ y) :=
 ⟨set_block _ _ 1 _ _ _ (set_block _ _ 0 _ _ _ h x) y, (kept_set w g 0 x).trans (kept_set _ g 1 y)⟩
theorem own_at9k {w : World} {b e s n : Nat} {v : Value} {xs : List Value} (h : w.ownsRow b e s v n xs) (hn : 0 < n) : ∃ g c, v = .slice (some ⟨g, 0, none⟩) n c := by
 rcases h.2 with ⟨_, h0⟩ | ⟨g, c, cur, rfl, _⟩
 ·omega
 ·exact ⟨g, c, rfl⟩
def TakR (base g gh gw n : Nat) (C : Array Value) (hs : List Int) (ws : List Bool) (s : ST) (i : Nat) (w : World) (e : Ending) (w' : World) : Prop :=
 Kept (fun k => k = gh ∨ k = gw) w w' ∧ ((faultS s (hs.getD i 0) n ≠ 0 ∧ e = .returned (.int .i64 (faultS s (hs.getD i 0) n))) ∨
  (faultS s (hs.getD i 0) n = 0 ∧ clash (behindS s (hs.getD i 0)) s.nx hs ∧ e = .returned (.int .i64 136)) ∨
  (faultS s (hs.getD i 0) n = 0 ∧ ¬ clash (behindS s (hs.getD i 0)) s.nx hs ∧ e = .returned (.int .i64 0) ∧ LkAt w' base g gh gw n C (setHW (behindS s (hs.getD i 0)) s.nx hs ws).1 (setHW (behindS s (hs.getD i 0)) s.nx hs ws).2))
set_option maxHeartbeats 40000000 in
theorem taken_ref (p : PG) (B : Nat) (ho : p.Ok) (hck : checkP p = 0) (hall : ∀ f ∈ p.fns, FnOk p f) (q : Nat) (f : FN) (hf : p.fns[q]? = some f) (i : Nat) (x : IN) (hx : f.code[i]? = some x) (base g gh gw n nd dc nf fc : Nat) (mem : Int) (dao fao : Option Addr) (w : World)
  (hpg : PgIs w B (.agg #[.int .i64 mem, .slice dao nd dc, .slice fao nf fc]) p) (hB : B ≤ w.heap.size) (hn : n = f.code.length) (hs : List Int) (ws : List Bool) (hL : LkAt w base g gh gw n #[.int .i64 mem, .slice dao nd dc, .slice fao nf fc, .int .i64 (q : Int), .slice (some ⟨gh, 0, none⟩) n n, .slice (some ⟨gw, 0, none⟩) n n] hs ws) (hr0 : 0 ≤ hs.getD i 0) (hr1 : hs.getD i 0 ≤ 256) (hnx : ∀ m ∈ wayL x i, 0 ≤ m ∧ m ≤ n) :
  Calls Tryz.prog 70 #[.pointer (some ⟨g, 0, none⟩), .int .i64 (i : Int)] w (TakR base g gh gw n #[.int .i64 mem, .slice dao nd dc, .slice fao nf fc, .int .i64 (q : Int), .slice (some ⟨gh, 0, none⟩) n n, .slice (some ⟨gw, 0, none⟩) n n] hs ws (stepAt p f i x) i w) := by
 have hin : i < n := by rw [hn]; exact (List.getElem?_eq_some_iff.1 hx).1
 have hinI : (i : Int) < (n : Int) := by omega
 have hfo := hall f (List.mem_of_getElem? hf)
 have hn4 : n ≤ 4096 := by rw [hn]; exact hfo.n.2
 have hid := instr_at hf hx
 have htk : rtakesD p (q : Int) (i : Int) = tkgv p f x := by rw [takes_same hck]; unfold takesD; rw [hid]
 have hrg := tkgv_rng p f x hfo hall
 obtain ⟨tk, gv, htg⟩ : ∃ tk gv, tkgv p f x = (tk, gv) := ⟨_, _, rfl⟩
 rw [htg] at htk hrg
 have hxa : x.op = 5 → 0 ≤ x.a ∧ x.a ≤ 1000000 := (steps_ok p f hfo hall).stb _ (List.mem_of_getElem? (steps_at (p := p) hx)) |>.a
 obtain ⟨xo, hxo⟩ := nmd (x.op)
 obtain ⟨xa, hxa0⟩ := nmd (x.a)
 obtain ⟨h, hh0⟩ := nmd (hs.getD i 0)
 rw [← hh0] at hr0 hr1
 rw [← hxo, ← hxa0] at hxa
 obtain ⟨W1, hW1⟩ := nmd (w.alloc (.cells #[.int .i64 (q : Int), .int .i64 (i : Int)] 36))
 obtain ⟨gs, hgs⟩ := nmd (w.heap.size)
 have hk1 : KF w W1 := by rw [hW1]; exact (Kept.refl _ _).alloc _
 have hs1 : W1.heap[gs]? = some (.cells #[.int .i64 (q : Int), .int .i64 (i : Int)] 36 (0, 0)) := by rw [hW1, hgs]; exact heap_alloc_new w _
 have hL1 := hL.same hk1
 have HSX : Hid (∀ w', KF W1 w' → w'.cell? ⟨g, 0, none⟩ = some (.int .i64 mem) ∧ w'.cell? ⟨g, 1, none⟩ = some (.slice dao nd dc) ∧ w'.cell? ⟨g, 2, none⟩ = some (.slice fao nf fc) ∧ w'.cell? ⟨g, 3, none⟩ = some (.int .i64 (q : Int)) ∧ w'.cell? ⟨g, 4, none⟩ = some (.slice (some ⟨gh, 0, none⟩) n n) ∧ w'.cell? ⟨g, 5, none⟩ = some (.slice (some ⟨gw, 0, none⟩) n n) ∧ w'.cell? ⟨gs, 0, none⟩ = some (.int .i64 (q : Int)) ∧ w'.cell? ⟨gs, 1, none⟩ = some (.int .i64 (i : Int))) := fun w' hw => by
  obtain ⟨a0, a1, a2, a3, a4, a5⟩ := look6k (hL1.same hw).box
  obtain ⟨s0, s1, _⟩ := look2 (box_kept hw hs1 id)
  exact ⟨a0, a1, a2, a3, a4, a5, s0, s1⟩
 have HPG : Hid (∀ w', KF W1 w' → PgIs w' B (.agg #[.int .i64 mem, .slice dao nd dc, .slice fao nf fc]) p ∧ B ≤ w'.heap.size) := fun w' hw => ⟨hpg.kept (hk1.trans hw) (fun _ _ f => f), Nat.le_trans hB (hk1.trans hw).size⟩
 have HAT : Hid (∀ w', KF W1 w' → Calls Tryz.prog 51 #[.agg #[.int .i64 mem, .slice dao nd dc, .slice fao nf fc], .agg #[.int .i64 (q : Int), .int .i64 (i : Int)]] w' fun e w2 => e = .returned (.tuple #[.agg #[.int .i64 xo, .int .i64 xa], .bool true]) ∧ KF w' w2) := fun w' hw => by
  refine (rat_any _ p w' B (HPG.out w' hw).1 (HPG.out w' hw).2 (q : Int) (i : Int)).mono ?_
  rintro e w2 ⟨hk, hm⟩
  rw [hid] at hm
  exact ⟨by rw [hm, hxo, hxa0], hk⟩
 have HTK : Hid (∀ w', KF W1 w' → Calls Tryz.prog 21 #[.agg #[.int .i64 mem, .slice dao nd dc, .slice fao nf fc], .agg #[.int .i64 (q : Int), .int .i64 (i : Int)]] w' fun e w2 => e = .returned (.tuple #[.int .i64 tk, .int .i64 gv]) ∧ KF w' w2) := fun w' hw => by
  have h9 := rtakes_any _ p w' B (HPG.out w' hw).1 (HPG.out w' hw).2 ho (q : Int) (i : Int)
  rw [htk] at h9
  exact h9
 have HWY : Hid (∀ w', Calls Tryz.prog 52 #[.agg #[.int .i64 xo, .int .i64 xa], .int .i64 (i : Int)] w' (WayR x i w')) := fun w' => by
  rw [hxo, hxa0]
  exact rways_any x (i : Int) w' (by omega) (by omega)
 have HST : Hid (stepAt p f i x = ⟨xo, xa, tk, gv, wayL x i⟩) := by unfold Hid stepAt; rw [htg, hxo, hxa0]
 have HG18 : Hid (xo = 18 → gv = 0 ∧ wayL x i = []) := fun h18 => by
  rw [hxo] at h18
  refine ⟨?_, by unfold wayL; rw [if_pos (by omega)]⟩
  have h9 := htg
  unfold tkgv at h9
  rw [if_neg (by omega), if_pos h18] at h9
  exact (congrArg Prod.snd h9).symm
 obtain ⟨b, hb⟩ := nmd (h - tk + gv)
 have HBD := hid_of hb
 have HH0 := hid_of hh0
 have HL1 := hid_of hL1
 have HK1 := hid_of hk1
 have HNX := hid_of hnx
 have c3 : w.cell? ⟨g, 3, none⟩ = some (.int .i64 (q : Int)) := (look6k hL.box).2.2.2.1
 have hrg2 : (0 ≤ tk ∧ tk ≤ 1000) ∧ 0 ≤ gv ∧ gv ≤ 1000 := hrg
 obtain ⟨⟨tk0, tk1⟩, gv0, gv1⟩ := hrg2
 clear hrg
 have HRH := hid_of hr0
 clear hk1 hs1 hL1 hL hpg hB hn hf hx hfo hid htk htg hxo hxa0 hh0 ho hck hall hb hnx
 go_enter Tryz.func70, Tryz.ntmps70
 go_upto_region 2 with fail
 rw [← hW1, ← hgs]
 clear hW1 hgs c3
 go_cut [6, 7] from 17 to 156 (fun v6 v7 wx => ∃ gx, v6 = .pointer (some ⟨gx, 0, none⟩) ∧ v7 = .bool true ∧ Hid (wx.heap[gx]? = some (.cells #[.int .i64 xo, .int .i64 xa] 64 (0, 0))) ∧ Hid (KF W1 wx))
 case first =>
  as_aux_lemma =>
   refine wp_region_held_drew (S := fun w' => KF W1 w') (by kernel_rfl) ((Kept.refl _ _).drew) (fun hHeld => ?_)
   have hKd : KF W1 W1.drew := (Kept.refl _ _).drew
   generalize W1.drew = wd at *
   iterate 5
    refine tkn (v := ?_) 0 rfl ?_ ?_; rotate_left 1
    ·intro w hSw; obtain ⟨a0, a1, a2, a3, a4, a5, s0, s1⟩ := HSX.out w hSw; go_simp; try with_reducible rfl
    try simp only [Act.put, tdy]
   refine wpAnyH_ready (rs := [5, 9]) (by kernel_rfl) (by simp) ?_
   refine AllReadyH.cons rfl (fun K hK => ?_) (AllReadyH.cons rfl (fun K hK => ?_) AllReadyH.nil)
   ·go_simp
    refine (HAT.out _ hHeld).mono ?_
    rintro e w3 ⟨rfl, hk3⟩
    have hkk := hHeld.trans hk3
    refine hK.out _ _ hkk (fun hHeld => ?_)
    clear hK K
    try simp only [Act.put, tdy]
    iterate 3
     refine tkn (v := ?_) 6 rfl ?_ ?_; rotate_left 1
     ·intro w hSw; obtain ⟨a0, a1, a2, a3, a4, a5, s0, s1⟩ := HSX.out w hSw; go_simp; try with_reducible rfl
     try simp only [Act.put, tdy]
    have hb9 := heap_alloc_new w3 (.cells #[.int .i64 0, .int .i64 0] 64)
    have hsz : W1.heap.size ≤ w3.heap.size := hkk.size
    refine rdy 9 rfl (fun K hK => ?_)
    go_simp
    refine hK.out _ _ (hHeld.alloc _) (fun hHeld => ?_)
    clear hK K
    try simp only [Act.put, tdy]
    obtain ⟨z0, z1, y0, y1⟩ := look2 hb9
    have hb10 := heap_alloc_new w3 (.cells #[.int .i64 xo, .int .i64 xa] 64)
    have hk10 := hkk.alloc (.cells #[.int .i64 xo, .int .i64 xa] 64)
    refine rdy 10 rfl (fun K hK => ?_)
    go_simp
    refine hK.out _ _ hk10 (fun hHeld => ?_)
    clear hK K
    try simp only [Act.put, tdy]
    iterate 1
     refine tkn (v := ?_) 11 rfl ?_ ?_; rotate_left 1
     ·intro w hSw; go_simp; try with_reducible rfl
     try simp only [Act.put, tdy]
    refine wpAnyH_done (by kernel_rfl) ?_ _
    have HKX := hid_of hHeld
    have HBX := hid_of hb10
    clear hHeld hb10 hk10 hb9 z0 z1 y0 y1
    go_wp2_with fail
    go_meet
    exact ⟨_, rfl, rfl, HBX, HKX⟩
   ·have hb8 := heap_alloc_new wd (.cells #[.int .i64 0, .int .i64 0] 64)
    have hsz : W1.heap.size ≤ wd.heap.size := hKd.size
    go_simp
    refine hK.out _ _ (hHeld.alloc _) (fun hHeld => ?_)
    clear hK K
    try simp only [Act.put, tdy]
    refine rdy 5 rfl (fun K hK => ?_)
    go_simp
    refine (HAT.out _ hHeld).mono ?_
    rintro e w3 ⟨rfl, hk3⟩
    have hkk := hHeld.trans hk3
    refine hK.out _ _ hkk (fun hHeld => ?_)
    clear hK K
    try simp only [Act.put, tdy]
    iterate 3
     refine tkn (v := ?_) 6 rfl ?_ ?_; rotate_left 1
     ·intro w hSw; obtain ⟨a0, a1, a2, a3, a4, a5, s0, s1⟩ := HSX.out w hSw; go_simp; try with_reducible rfl
     try simp only [Act.put, tdy]
    have hb9 := box_kept hk3 hb8 id
    obtain ⟨z0, z1, y0, y1⟩ := look2 hb9
    obtain ⟨hb10, hk10⟩ := store2 _ _ _ _ _ (.int .i64 xo) (.int .i64 xa) hb9
    refine rdy 10 rfl (fun K hK => ?_)
    go_simp
    refine hK.out _ _ (hHeld.step hk10 (fun i hi e => by omega)) (fun hHeld => ?_)
    clear hK K
    try simp only [Act.put, tdy]
    iterate 1
     refine tkn (v := ?_) 11 rfl ?_ ?_; rotate_left 1
     ·intro w hSw; go_simp; try with_reducible rfl
     try simp only [Act.put, tdy]
    refine wpAnyH_done (by kernel_rfl) ?_ _
    have HKX := hid_of hHeld
    have HBX := hid_of hb10
    clear hHeld hb10 hk10 hb9 z0 z1 y0 y1
    go_wp2_with fail
    go_meet
    exact ⟨_, rfl, rfl, HBX, HKX⟩
 case rest =>
  as_aux_lemma =>
   obtain ⟨gx, rfl, rfl, HX, HK2⟩ := hcut
   obtain ⟨w5, hw5⟩ := nmd (wc)
   subst hw5
   have hh5 := ((HL1.out.same HK2.out).cellH hin).1
   rw [← HH0.out] at hh5
   obtain ⟨a0, a1, a2, a3, a4, a5, s0, s1⟩ := HSX.out w5 HK2.out
   go_upto_region 4 with fail
   clear a0 a1 a2 a3 a4 a5 s0 s1 hh5
   refine wp_region_held_drew (S := fun w' => KF w5 w') (by kernel_rfl) ((Kept.refl _ _).drew) (fun hHeld => ?_)
   generalize w5.drew = wd at *
   iterate 5
    refine tkn (v := ?_) 0 rfl ?_ ?_; rotate_left 1
    ·intro w hSw; obtain ⟨a0, a1, a2, a3, a4, a5, s0, s1⟩ := HSX.out w (HK2.out.trans hSw); go_simp; try with_reducible rfl
    try simp only [Act.put, tdy]
   refine rdy 5 rfl (fun K hK => ?_)
   go_simp
   refine (HTK.out _ (HK2.out.trans hHeld)).mono ?_
   rintro e w6 ⟨rfl, hk6⟩
   have hkk := hHeld.trans hk6
   refine hK.out _ _ hkk (fun hHeld => ?_)
   clear hK K
   try simp only [Act.put, tdy]
   iterate 5
    refine tkn (v := ?_) 6 rfl ?_ ?_; rotate_left 1
    ·intro w hSw; go_simp; try with_reducible rfl
    try simp only [Act.put, tdy]
   refine wpAnyH_done (by kernel_rfl) ?_ _
   have HK6 := hid_of (HK2.out.trans hkk)
   have HX6 := hid_of (box_kept hkk HX.out id)
   clear hHeld hkk hk6 HK2 HX
   obtain ⟨wt, hwt⟩ := nmd (if xo = 5 then xa + 1 else tk)
   have HWT := hid_of hwt
   obtain ⟨x0, x1, _⟩ := look2 HX6.out
   go_upto_if 51 with fail
   go_cut [11] from 17 to 156 (fun v11 wx => v11 = .int .i64 wt ∧ wx = w6)
   case first =>
    as_aux_lemma =>
     by_cases h5 : xo = 5
     ·have e5 : (xo == 5) = true := by simpa using h5
      have hw1 : IntKind.i64.wrap (xa + 1) = xa + 1 := by have := hxa h5; simp [IntKind.wrap, IntKind.bits, IntKind.signed]; omega
      rw [if_pos h5] at hwt
      have HW2 := hid_of hwt
      clear hwt h5
      go_wp2_with fail
      go_meet
      exact ⟨by rw [HW2.out], rfl⟩
     ·have e5 : (xo == 5) = false := by simpa using h5
      rw [if_neg h5] at hwt
      have HW2 := hid_of hwt
      clear hwt
      go_wp2_with fail
      go_meet
      exact ⟨by rw [HW2.out], rfl⟩
   case rest =>
    as_aux_lemma =>
     obtain ⟨rfl, hwc⟩ := hcut
     have hwc2 := hwc.symm
     clear hwc hwt
     subst hwc2
     have HFT : Hid (faultS (stepAt p f i x) (hs.getD i 0) n = if xo = 18 ∧ h ≠ tk then 138 else if h < wt then 134 else if 256 < b then 135 else if (n : Int) ∈ wayL x i then 137 else 0) := by
      unfold Hid
      rw [HST.out, ← HH0.out]
      unfold faultS wantsS behindS
      rw [← HBD.out, HWT.out]
     have HBE : Hid (behindS (stepAt p f i x) (hs.getD i 0) = b) := by unfold Hid; rw [HST.out, ← HH0.out, HBD.out]; rfl
     have HNE : Hid ((stepAt p f i x).nx = wayL x i) := rfl
     have HKE : Hid (Kept (fun k => k = gh ∨ k = gw) w w6) := (HK1.out.trans HK6.out).mono (fun _ _ f => f.elim)
     have HL6 := hid_of (HL1.out.same HK6.out)
     by_cases h18 : xo = 18
     ·obtain ⟨hg0, hw0⟩ := HG18.out h18
      have e18 : (xo == 18) = true := by simpa using h18
      by_cases hht : h = tk
      ·have e19 : (h != tk) = false := by simpa using hht
       have HF0 : Hid (faultS (stepAt p f i x) (hs.getD i 0) n = 0) := by
        unfold Hid
        have hw9 := HWT.out
        have hb9 := HBD.out
        rw [if_neg (by omega)] at hw9
        rw [HFT.out, if_neg (fun hc => hc.2 hht), if_neg (by omega), if_neg (by omega), hw0, if_neg (by simp)]
       have HN0 := hid_of hw0
       clear hht h18 hg0 hw0
       go_wp2
       go_ret
       refine ⟨HKE.out, .inr (.inr ⟨HF0.out, ?_, rfl, ?_⟩)⟩
       ·rw [HNE.out, HN0.out]
        rintro ⟨m, hm, _⟩
        cases hm
       ·rw [HNE.out, HN0.out]
        exact HL6.out
      ·have e19 : (h != tk) = true := by simpa using hht
       have HF0 : Hid (faultS (stepAt p f i x) (hs.getD i 0) n = 138) := by unfold Hid; rw [HFT.out, if_pos ⟨h18, hht⟩]
       clear hht h18 hg0 hw0
       go_wp2
       go_ret
       exact ⟨HKE.out, .inl ⟨by rw [HF0.out]; decide, by rw [HF0.out]; rfl⟩⟩
     ·have e18 : (xo == 18) = false := by simpa using h18
      by_cases hwl : h < wt
      ·have HF0 : Hid (faultS (stepAt p f i x) (hs.getD i 0) n = 134) := by unfold Hid; rw [HFT.out, if_neg (fun hc => h18 hc.1), if_pos hwl]
       clear h18
       go_wp2
       go_ret
       exact ⟨HKE.out, .inl ⟨by rw [HF0.out]; decide, by rw [HF0.out]; rfl⟩⟩
      ·have ewl : decide (h < wt) = false := by simpa using hwl
       have hb1 : IntKind.i64.wrap (h - tk) = h - tk := by simp [IntKind.wrap, IntKind.bits, IntKind.signed]; omega
       have hb2 : IntKind.i64.wrap (h - tk + gv) = b := by rw [HBD.out]; simp [IntKind.wrap, IntKind.bits, IntKind.signed]; omega
       by_cases hbl : 256 < b
       ·have HF0 : Hid (faultS (stepAt p f i x) (hs.getD i 0) n = 135) := by unfold Hid; rw [HFT.out, if_neg (fun hc => h18 hc.1), if_neg hwl, if_pos hbl]
        clear h18
        go_wp2
        go_ret
        exact ⟨HKE.out, .inl ⟨by rw [HF0.out]; decide, by rw [HF0.out]; rfl⟩⟩
       ·have ebl : decide (256 < b) = false := by simpa using hbl
        have HF1 : Hid (faultS (stepAt p f i x) (hs.getD i 0) n = if (n : Int) ∈ wayL x i then 137 else 0) := by unfold Hid; rw [HFT.out, if_neg (fun hc => h18 hc.1), if_neg hwl, if_neg hbl]
        have HW52 := hid_of (HWY.out w6)
        clear h18 hwl hbl
        go_wp2_with fail
        refine HW52.out.mono ?_
        rintro e w7 ⟨tv, rfl, htv, hk7⟩
        obtain ⟨ms, hms⟩ := nmd (wayL x i)
        rw [← hms] at htv HF1 HNX HNE
        obtain ⟨tao, tc, e9⟩ := ownsRow_shape htv
        obtain ⟨nt, hnt⟩ := nmd (ms.length)
        have htv : w7.ownsRow w6.heap.size 3 1 tv ms.length (ints ms) := htv
        rw [← hnt] at e9 htv
        subst e9
        have hnt2 : nt ≤ 2 := by
         rw [hnt, hms]
         unfold wayL
         repeat' split
         all_goals simp
        have HNT := hid_of hnt
        have hgl : gh < w6.heap.size ∧ gw < w6.heap.size ∧ g < w6.heap.size := ⟨(HL6.out.hh.lt gh rfl).2, (HL6.out.ww.lt gw rfl).2, (Array.getElem?_eq_some_iff.1 HL6.out.box).1⟩
        obtain ⟨ap1, ap2, ap3⟩ := HL6.out.apart
        have HL7 := hid_of (HL6.out.same hk7)
        have HS7 : Hid (∀ w', Kept (fun k => k = gh ∨ k = gw) w7 w' → w'.cell? ⟨g, 4, none⟩ = some (.slice (some ⟨gh, 0, none⟩) n n) ∧ w'.cell? ⟨g, 5, none⟩ = some (.slice (some ⟨gw, 0, none⟩) n n) ∧ ∀ (k tg : Nat), tao = some ⟨tg, 0, none⟩ → k < nt → w'.cell? ⟨tg, k, none⟩ = some (.int .i64 (ms.getD k 0))) := fun w' hw => by
         obtain ⟨_, _, _, _, a4, a5⟩ := look6k (box_kept hw HL7.out.box (by omega))
         refine ⟨a4, a5, fun k tg htg hk => ?_⟩
         subst htg
         have hlt := htv.lt tg rfl
         have h9 := hw.ownsRow htv (fun q hq e => by simp [Value.ownBlock] at hq; omega)
         have hkm : k < ms.length := by rw [← HNT.out]; exact hk
         rw [h9.cellAt _ (by omega)]
         simp [ints, List.getD, List.getElem?_eq_getElem hkm]
        have HTA : Hid (0 < nt → ∃ tg, tao = some ⟨tg, 0, none⟩) := fun h0 => by
         obtain ⟨tg, c, e⟩ := own_at9k htv h0
         simp only [Value.slice.injEq] at e
         exact ⟨tg, e.1⟩
        have HMR : Hid (∀ k, k < nt → 0 ≤ ms.getD k 0 ∧ ms.getD k 0 ≤ n ∧ ms.getD k 0 ∈ ms ∧ ms[k]? = some (ms.getD k 0)) := fun k hk => by
         have hkm : k < ms.length := by rw [← HNT.out]; exact hk
         have hm := getD_mem hkm
         exact ⟨(HNX.out _ hm).1, (HNX.out _ hm).2, hm, by simp [List.getD, List.getElem?_eq_getElem hkm]⟩
        have HK67 : Hid (Kept (fun k => k = gh ∨ k = gw) w w7) := HKE.out.trans (hk7.mono (fun _ _ f => f.elim))
        have HK70 := hid_of (Kept.refl (fun _ => False) w7)
        clear hms hnt htv hk7
        go_wp2_with fail
        clear x0 x1
        go_loopw [14] (fun iv wr => ∃ k : Nat, k ≤ nt ∧ iv = .int .i64 (k : Int) ∧ Hid (KF w7 wr) ∧ Hid (∀ m ∈ ms.take k, m < n)) (fun iv _ => nt - (intOf iv).toNat)
        case atStart => exact ⟨0, by omega, rfl, HK70, by simp [Hid]⟩
        case round =>
         clear HK70
         obtain ⟨k, hk, rfl, HKR, HMT⟩ := hrel
         by_cases hkn : k < nt
         ·have hknI : (k : Int) < (nt : Int) := by omega
          obtain ⟨tg, htg⟩ := HTA.out (by omega)
          subst htg
          obtain ⟨m0, m1, m2, m3⟩ := HMR.out k hkn
          obtain ⟨m, hm⟩ : ∃ m : Nat, ms.getD k 0 = (m : Int) := ⟨(ms.getD k 0).toNat, by omega⟩
          rw [hm] at m1 m2 m3
          have HM2 := hid_of m2
          have HM3 := hid_of m3
          have HM := hid_of hm
          clear m0 m2 m3 hm
          go_upto_region 21 with fail
          refine wp_region_held_drew (S := fun w' => KF wr w') (by kernel_rfl) ((Kept.refl _ _).drew) (fun hHeld => ?_)
          iterate 10
           refine tkn (v := ?_) 0 rfl ?_ ?_; rotate_left 1
           ·intro w hSw; obtain ⟨a4, a5, htc⟩ := HS7.out w ((HKR.out.trans hSw).mono (fun _ _ f => f.elim)); have tc0 := htc k tg rfl hkn; clear htc; rw [HM.out] at tc0; go_simp; try with_reducible rfl
           try simp only [Act.put, tdy]
          refine wpAnyH_done (by kernel_rfl) ?_ _
          generalize wr.drew = wd at *
          have HKD := hid_of (HKR.out.trans hHeld)
          clear hHeld
          by_cases hmn : m < n
          ·have hmd : decide (n ≤ m) = false := by simp; omega
           have hmdI : decide ((n : Int) ≤ (m : Int)) = false := by simp; omega
           have HMT2 : Hid (∀ y ∈ ms.take (k + 1), y < n) := by
            unfold Hid
            intro y hy
            rw [List.take_add_one, HM3.out] at hy
            rcases List.mem_append.1 hy with hy | hy
            ·exact HMT.out y hy
            ·simp at hy; omega
           go_wp2
           go_roundw
           case rel => exact ⟨k + 1, by omega, by go_num, HKD, HMT2⟩
           case measure => simp [intOf]; omega
          ·have hmd : decide (n ≤ m) = true := by simp; omega
           have hmdI : decide ((n : Int) ≤ (m : Int)) = true := by simp; omega
           have HF0 : Hid (faultS (stepAt p f i x) (hs.getD i 0) n = 137) := by
            unfold Hid
            rw [HF1.out, if_pos (show (n : Int) ∈ ms from (show (m : Int) = (n : Int) by omega) ▸ HM2.out)]
           go_wp2
           go_ret
           exact ⟨HK67.out.trans (HKD.out.mono (fun _ _ f => f.elim)), .inl ⟨by rw [HF0.out]; decide, by rw [HF0.out]; rfl⟩⟩
         ·have hknI : ¬ ((k : Int) < (nt : Int)) := by omega
          have HF0 : Hid (faultS (stepAt p f i x) (hs.getD i 0) n = 0) := by
           unfold Hid
           rw [HF1.out, if_neg (fun hc => by
            have h9 := HMT.out (n : Int) (by rw [List.take_of_length_le (by rw [← HNT.out]; omega)]; exact hc)
            omega)]
          have HMN : Hid (∀ k, k < nt → ms.getD k 0 < n) := fun j hj => HMT.out _ (by rw [List.take_of_length_le (by rw [← HNT.out]; omega)]; exact (HMR.out j hj).2.2.1)
          clear HF1 HFT HMT hk
          go_wp2_with fail
          go_loopw [15] (fun iv wr => ∃ k : Nat, k ≤ nt ∧ iv = .int .i64 (k : Int) ∧ Hid (KF w7 wr) ∧ Hid (∀ m ∈ ms.take k, hs.getD m.toNat 0 = -1 ∨ hs.getD m.toNat 0 = b)) (fun iv _ => nt - (intOf iv).toNat)
          case atStart => exact ⟨0, by omega, rfl, HKR, by simp [Hid]⟩
          case round =>
           clear HKR hknI hkn
           obtain ⟨k, hk, rfl, HKR, HMT⟩ := hrel
           by_cases hkn : k < nt
           ·have hknI : (k : Int) < (nt : Int) := by omega
            obtain ⟨tg, htg⟩ := HTA.out (by omega)
            subst htg
            obtain ⟨m0, m1, m2, m3⟩ := HMR.out k hkn
            have m4 := HMN.out k hkn
            obtain ⟨m, hm⟩ : ∃ m : Nat, ms.getD k 0 = (m : Int) := ⟨(ms.getD k 0).toNat, by omega⟩
            rw [hm] at m1 m2 m3 m4
            have hmn : m < n := by omega
            have hmnI : (m : Int) < (n : Int) := by omega
            have HM2 := hid_of m2
            have HM3 := hid_of m3
            have HM := hid_of hm
            obtain ⟨hv, hhv⟩ := nmd (hs.getD m 0)
            have HHV := hid_of hhv
            have HC7 : Hid (∀ w', KF wr w' → w'.cell? ⟨gh, m, none⟩ = some (.int .i64 hv)) := fun w' hw => by
             have h9 := ((HL7.out.same (HKR.out.trans hw)).cellH hmn).1
             rw [HHV.out]; exact h9
            have HSTEP : Hid (hv = -1 ∨ hv = b → ∀ y ∈ ms.take (k + 1), hs.getD y.toNat 0 = -1 ∨ hs.getD y.toNat 0 = b) := fun hc y hy => by
             rw [List.take_add_one, HM3.out] at hy
             rcases List.mem_append.1 hy with hy | hy
             ·exact HMT.out y hy
             ·simp at hy
              subst hy
              rw [Int.toNat_natCast, ← HHV.out]
              exact hc
            clear m0 m2 m3 hm hhv
            go_upto_region 26 with fail
            by_cases hz : hv = -1
            ·as_aux_lemma =>
              have HT2 := hid_of (HSTEP.out (.inl hz))
              have ez : (hv != -1) = false := by simpa using hz
              clear hz HSTEP
              refine wp_region_held_drew (S := fun w' => KF wr w') (by kernel_rfl) ((Kept.refl _ _).drew) (fun hHeld => ?_)
              iterate 12
               refine tkn (v := ?_) 0 rfl ?_ ?_; rotate_left 1
               ·intro w hSw; obtain ⟨a4, a5, htc⟩ := HS7.out w ((HKR.out.trans hSw).mono (fun _ _ f => f.elim)); have tc0 := htc k tg rfl hkn; clear htc; rw [HM.out] at tc0; have hc7 := HC7.out w hSw; go_simp; try with_reducible rfl
               try simp only [Act.put, tdy]
              iterate 12
               refine tkm 12 rfl ?_
               try simp only [Act.put, tdy]
              iterate 1
               refine tkn (v := ?_) 24 rfl ?_ ?_; rotate_left 1
               ·intro w hSw; obtain ⟨a4, a5, htc⟩ := HS7.out w ((HKR.out.trans hSw).mono (fun _ _ f => f.elim)); have tc0 := htc k tg rfl hkn; clear htc; rw [HM.out] at tc0; have hc7 := HC7.out w hSw; go_simp; try with_reducible rfl
               try simp only [Act.put, tdy]
              refine wpAnyH_done (by kernel_rfl) ?_ _
              generalize wr.drew = wd at *
              have HKD := hid_of (HKR.out.trans hHeld)
              clear hHeld HC7
              go_wp2
              go_roundw
              case rel => exact ⟨k + 1, by omega, by go_num, HKD, HT2⟩
              case measure => simp [intOf]; omega
            ·by_cases hzb : hv = b
             ·as_aux_lemma =>
               have HT2 := hid_of (HSTEP.out (.inr hzb))
               have ez : (hv != -1) = true := by simpa using hz
               have eb : (hv != b) = false := by simpa using hzb
               clear hz hzb HSTEP
               refine wp_region_held_drew (S := fun w' => KF wr w') (by kernel_rfl) ((Kept.refl _ _).drew) (fun hHeld => ?_)
               iterate 25
                refine tkn (v := ?_) 0 rfl ?_ ?_; rotate_left 1
                ·intro w hSw; obtain ⟨a4, a5, htc⟩ := HS7.out w ((HKR.out.trans hSw).mono (fun _ _ f => f.elim)); have tc0 := htc k tg rfl hkn; clear htc; rw [HM.out] at tc0; have hc7 := HC7.out w hSw; go_simp; try with_reducible rfl
                try simp only [Act.put, tdy]
               refine wpAnyH_done (by kernel_rfl) ?_ _
               generalize wr.drew = wd at *
               have HKD := hid_of (HKR.out.trans hHeld)
               clear hHeld HC7
               go_wp2
               go_roundw
               case rel => exact ⟨k + 1, by omega, by go_num, HKD, HT2⟩
               case measure => simp [intOf]; omega
             ·as_aux_lemma =>
               have ez : (hv != -1) = true := by simpa using hz
               have eb : (hv != b) = true := by simpa using hzb
               have HCL : Hid (clash b ms hs) := ⟨(m : Int), HM2.out, by rw [Int.toNat_natCast, ← HHV.out]; exact hz, by rw [Int.toNat_natCast, ← HHV.out]; exact hzb⟩
               clear hz hzb HSTEP
               refine wp_region_held_drew (S := fun w' => KF wr w') (by kernel_rfl) ((Kept.refl _ _).drew) (fun hHeld => ?_)
               iterate 25
                refine tkn (v := ?_) 0 rfl ?_ ?_; rotate_left 1
                ·intro w hSw; obtain ⟨a4, a5, htc⟩ := HS7.out w ((HKR.out.trans hSw).mono (fun _ _ f => f.elim)); have tc0 := htc k tg rfl hkn; clear htc; rw [HM.out] at tc0; have hc7 := HC7.out w hSw; go_simp; try with_reducible rfl
                try simp only [Act.put, tdy]
               refine wpAnyH_done (by kernel_rfl) ?_ _
               generalize wr.drew = wd at *
               have HKD := hid_of (HKR.out.trans hHeld)
               clear hHeld HC7
               go_wp2
               go_ret
               exact ⟨HK67.out.trans (HKD.out.mono (fun _ _ f => f.elim)), .inr (.inl ⟨HF0.out, by rw [HBE.out, HNE.out]; exact HCL.out, rfl⟩)⟩
           ·have hknI : ¬ ((k : Int) < (nt : Int)) := by omega
            have HNC : Hid (¬ clash b ms hs) := by
             unfold Hid
             rintro ⟨y, hy, c1, c2⟩
             have h9 := HMT.out y (by rw [List.take_of_length_le (by rw [← HNT.out]; omega)]; exact hy)
             rcases h9 with h9 | h9
             ·exact c1 h9
             ·exact c2 h9
            have HL8 := hid_of (HL7.out.same HKR.out)
            have HK8 : Hid (Kept (fun k => k = gh ∨ k = gw) w7 wr) := HKR.out.mono (fun _ _ f => f.elim)
            have HSE : Hid (setHW b ms hs ws = setHW b (ms.drop 0) hs ws) := rfl
            clear HMT hk
            go_wp2_with fail
            go_loopw [16] (fun iv wr => ∃ (k : Nat) (hk : List Int) (wk : List Bool), k ≤ nt ∧ iv = .int .i64 (k : Int) ∧ Hid (Kept (fun k => k = gh ∨ k = gw) w7 wr) ∧ Hid (LkAt wr base g gh gw n #[.int .i64 mem, .slice dao nd dc, .slice fao nf fc, .int .i64 (q : Int), .slice (some ⟨gh, 0, none⟩) n n, .slice (some ⟨gw, 0, none⟩) n n] hk wk) ∧ Hid (setHW b ms hs ws = setHW b (ms.drop k) hk wk)) (fun iv _ => nt - (intOf iv).toNat)
            case atStart => exact ⟨0, hs, ws, by omega, rfl, HK8, HL8, HSE⟩
            case round =>
             clear HKR hknI hkn HL8 HK8 HSE
             obtain ⟨k, hq, wq, hk, rfl, HKR, HLR, HSE⟩ := hrel
             by_cases hkn : k < nt
             ·have hknI : (k : Int) < (nt : Int) := by omega
              obtain ⟨tg, htg⟩ := HTA.out (by omega)
              subst htg
              obtain ⟨m0, m1, m2, m3⟩ := HMR.out k hkn
              have m4 := HMN.out k hkn
              obtain ⟨m, hm⟩ : ∃ m : Nat, ms.getD k 0 = (m : Int) := ⟨(ms.getD k 0).toNat, by omega⟩
              rw [hm] at m1 m2 m3 m4
              have hmn : m < n := by omega
              have hmnI : (m : Int) < (n : Int) := by omega
              have HM := hid_of hm
              obtain ⟨hv, hhv⟩ := nmd (hq.getD m 0)
              have HHV := hid_of hhv
              have HC7 : Hid (∀ w', KF wr w' → w'.cell? ⟨gh, m, none⟩ = some (.int .i64 hv)) := fun w' hw => by
               have h9 := ((HLR.out.same hw).cellH hmn).1
               rw [HHV.out]; exact h9
              have HDR : Hid (setHW b (ms.drop k) hq wq = if hv = -1 then setHW b (ms.drop (k + 1)) (hq.set m b) (wq.set m true) else setHW b (ms.drop (k + 1)) hq wq) := by
               unfold Hid
               have hkm : k < ms.length := by rw [← HNT.out]; exact hkn
               have e9 : ms[k] = (m : Int) := by rw [List.getElem?_eq_getElem hkm] at m3; exact Option.some.inj m3
               rw [List.drop_eq_getElem_cons hkm, e9, setHW, Int.toNat_natCast, ← HHV.out]
              clear m0 m2 m3 hm hhv
              go_upto_region 31 with fail
              refine wp_region_held_drew (S := fun w' => KF wr w') (by kernel_rfl) ((Kept.refl _ _).drew) (fun hHeld => ?_)
              iterate 11
               refine tkn (v := ?_) 0 rfl ?_ ?_; rotate_left 1
               ·intro w hSw; obtain ⟨a4, a5, htc⟩ := HS7.out w (HKR.out.trans (hSw.mono (fun _ _ f => f.elim))); have tc0 := htc k tg rfl hkn; clear htc; rw [HM.out] at tc0; have hc7 := HC7.out w hSw; go_simp; try with_reducible rfl
               try simp only [Act.put, tdy]
              refine wpAnyH_done (by kernel_rfl) ?_ _
              generalize wr.drew = wd at *
              have HKD : Hid (Kept (fun k => k = gh ∨ k = gw) w7 wd) := HKR.out.trans (hHeld.mono (fun _ _ f => f.elim))
              have HLD := hid_of (HLR.out.same hHeld)
              have hcd := HC7.out wd hHeld
              clear hHeld HKR HLR HC7
              by_cases hz : hv = -1
              ·as_aux_lemma =>
                have ez : (hv == -1) = true := by simpa using hz
                have HSE2 : Hid (setHW b ms hs ws = setHW b (ms.drop (k + 1)) (hq.set m b) (wq.set m true)) := by unfold Hid; rw [HSE.out, HDR.out, if_pos hz]
                clear hz HDR hcd
                go_upto_region 32 with fail
                refine wp_region_held_drew (S := fun w' => Kept (fun k => k = gh ∨ k = gw) wd w') (by kernel_rfl) ((Kept.refl _ _).drew) (fun hHeld => ?_)
                have hdd : KF wd wd.drew := (Kept.refl _ _).drew
                have HLE := hid_of (HLD.out.same hdd)
                generalize wd.drew = we at *
                obtain ⟨cc1, cc2⟩ := HLE.out.cellH hmn
                have HLF := hid_of (HLE.out.setH m b)
                have hkf := kept_set we gh m (.int .i64 b)
                iterate 10
                 refine tkn (v := ?_) 0 rfl ?_ ?_; rotate_left 1
                 ·intro w hSw; obtain ⟨a4, a5, htc⟩ := HS7.out w (HKD.out.trans hSw); have tc0 := htc k tg rfl hkn; clear htc; rw [HM.out] at tc0; go_simp; try with_reducible rfl
                 try simp only [Act.put, tdy]
                refine rdy 10 rfl (fun K hK => ?_)
                go_simp
                refine hK.out _ _ (hHeld.trans (hkf.mono (fun _ _ e => .inl e))) (fun hHeld => ?_)
                clear hK K
                try simp only [Act.put, tdy]
                refine wpAnyH_done (by kernel_rfl) ?_ _
                have HKF := hid_of (HKD.out.trans hHeld)
                generalize we.setCell ⟨gh, m, none⟩ (.int .i64 b) = wf at *
                clear hHeld hkf cc1 cc2 hdd HLE HKD HLD
                go_upto_region 33 with fail
                refine wp_region_held_drew (S := fun w' => Kept (fun k => k = gh ∨ k = gw) wf w') (by kernel_rfl) ((Kept.refl _ _).drew) (fun hHeld => ?_)
                have hdd : KF wf wf.drew := (Kept.refl _ _).drew
                have HLE := hid_of (HLF.out.same hdd)
                generalize wf.drew = we at *
                obtain ⟨cc1, cc2⟩ := HLE.out.cellW hmn
                have HL9 := hid_of (HLE.out.setW m true)
                have hkf := kept_set we gw m (.bool true)
                iterate 9
                 refine tkn (v := ?_) 0 rfl ?_ ?_; rotate_left 1
                 ·intro w hSw; obtain ⟨a4, a5, htc⟩ := HS7.out w (HKF.out.trans hSw); have tc0 := htc k tg rfl hkn; clear htc; rw [HM.out] at tc0; go_simp; try with_reducible rfl
                 try simp only [Act.put, tdy]
                refine rdy 9 rfl (fun K hK => ?_)
                go_simp
                refine hK.out _ _ (hHeld.trans (hkf.mono (fun _ _ e => .inr e))) (fun hHeld => ?_)
                clear hK K
                try simp only [Act.put, tdy]
                refine wpAnyH_done (by kernel_rfl) ?_ _
                have HK9 := hid_of (HKF.out.trans hHeld)
                clear hHeld hkf cc1 cc2 hdd HLE HKF HLF
                go_wp2
                go_roundw
                case rel => exact ⟨k + 1, _, _, by omega, by go_num, HK9, HL9, HSE2⟩
                case measure => simp [intOf]; omega
              ·as_aux_lemma =>
                have ez : (hv == -1) = false := by simpa using hz
                have HSE2 : Hid (setHW b ms hs ws = setHW b (ms.drop (k + 1)) hq wq) := by unfold Hid; rw [HSE.out, HDR.out, if_neg hz]
                clear hz HDR hcd
                go_wp2
                go_roundw
                case rel => exact ⟨k + 1, _, _, by omega, by go_num, HKD, HLD, HSE2⟩
                case measure => simp [intOf]; omega
             ·have hknI : ¬ ((k : Int) < (nt : Int)) := by omega
              have HSF : Hid (setHW b ms hs ws = (hq, wq)) := by unfold Hid; rw [HSE.out, List.drop_of_length_le (by rw [← HNT.out]; omega)]; rfl
              go_wp2
              go_ret
              refine ⟨HK67.out.trans HKR.out, .inr (.inr ⟨HF0.out, by rw [HBE.out, HNE.out]; exact HNC.out, rfl, ?_⟩)⟩
              rw [HBE.out, HNE.out, HSF.out]
              exact HLR.out
end Go.Proofs.YtcaadgcfceommaaGreat

import Derived.Test.YtcaadgcfceommaaGreatTJq
import Derived.Test.YtcaadgcfceommaaGreatTJt
import Derived.Test.YtcaadgcfceommaaGreatTNe
import Derived.Test.YtcaadgcfceommaaGreatTHb
namespace Go.Proofs.YtcaadgcfceommaaGreat
open Go.RowKit
set_option linter.unusedVariables false
set_option linter.unusedSimpArgs false
set_option maxRecDepth 100000
structure FcB (nf : Nat) (fx : FX) : Prop where
 hh : ∀ i, (fx.heights.getD i []).length ≤ 10000
 ll : ∀ i, (fx.loops.getD i []).length ≤ 10000
 tt : fx.tops.length ≤ 10000
 li : fx.live.length = nf
 nf : nf ≤ 10000
def FcAt (w : World) (nf : Nat) (v : Value) (fx : FX) : Prop := ∃ hvv tvv lvv liv : Value, v = .agg #[hvv, tvv, lvv, liv, .int .i64 fx.cells, .int .i64 fx.cost] ∧ RwN w hvv nf fx.heights ∧ OwnN w 0 tvv fx.tops ∧ RwN w lvv nf fx.loops ∧ w.ownsRow 0 4 1 liv nf (bools fx.live)
theorem FcAt.same {w w' : World} {nf : Nat} {v : Value} {fx : FX} (h : FcAt w nf v fx) (hk : KF w w') : FcAt w' nf v fx := by
 obtain ⟨hvv, tvv, lvv, liv, e, h1, h2, h3, h4⟩ := h
 exact ⟨hvv, tvv, lvv, liv, e, h1.same hk, hk.ownsRow h2 (fun _ _ f => f), h3.same hk, hk.ownsRow h4 (fun _ _ f => f)⟩
theorem FcAt.none (w : World) : FcAt w 0 (.agg #[.slice none 0 0, .slice none 0 0, .slice none 0 0, .slice none 0 0, .int .i64 0, .int .i64 0]) ⟨[], [], [], [], 0, 0⟩ :=
 ⟨_, _, _, _, rfl, ⟨[], World.ownsRow_nil _ _ _ _, rfl, fun i l hl => by simp at hl⟩, World.ownsRow_nil _ _ _ _, ⟨[], World.ownsRow_nil _ _ _ _, rfl, fun i l hl => by simp at hl⟩, World.ownsRow_nil _ _ _ _⟩
theorem FcB.none : FcB 0 ⟨[], [], [], [], 0, 0⟩ := ⟨fun i => by simp, fun i => by simp, by simp, rfl, by omega⟩
theorem rw_shape {w : World} {v : Value} {n : Nat} {H : List (List Int)} (h : RwN w v n H) : ∃ ao c, v = .slice ao n c := by
 obtain ⟨HV, h1, _⟩ := h
 obtain ⟨ao, c, e⟩ := ownsRow_shape h1
 exact ⟨ao, c, e⟩
set_option maxHeartbeats 40000000 in
theorem facts_same (v v' : Value) (nf : Nat) (fx : FX) (w : World) (hb : FcB nf fx) (h : FcAt w nf v fx) (h' : FcAt w nf v' fx) :
  Calls Tryz.prog 15 #[v, v'] w fun e w' => e = .returned (.bool true) ∧ KF w w' := by
 obtain ⟨hvv, tvv, lvv, liv, rfl, h1, h2, h3, h4⟩ := h
 obtain ⟨hvv', tvv', lvv', liv', rfl, h1', h2', h3', h4'⟩ := h'
 have hnf := hb.nf
 obtain ⟨ha, hc, e1⟩ := rw_shape h1
 obtain ⟨ha', hc', e1'⟩ := rw_shape h1'
 obtain ⟨la, lc, e3⟩ := rw_shape h3
 obtain ⟨la', lc', e3'⟩ := rw_shape h3'
 obtain ⟨ta, tc, e2⟩ := ownsRow_shape h2
 obtain ⟨ta', tc', e2'⟩ := ownsRow_shape h2'
 obtain ⟨ia, ic, e4⟩ := ownsRow_shape h4
 obtain ⟨ia', ic', e4'⟩ := ownsRow_shape h4'
 have HTS : Hid (∀ W, KF w W → Calls Tryz.prog 18 #[tvv, tvv'] W fun e w' => e = .returned (.bool true) ∧ KF W w') := fun W hW => same_true _ _ fx.tops W 0 0 (hW.ownsRow h2 (fun _ _ f => f)) (hW.ownsRow h2' (fun _ _ f => f)) hb.tt
 have HHS : Hid (∀ i, i < nf → ∃ g g' u u', ha = some ⟨g, 0, none⟩ ∧ ha' = some ⟨g', 0, none⟩ ∧ ∀ W, KF w W → W.cell? ⟨g, i, none⟩ = some u ∧ W.cell? ⟨g', i, none⟩ = some u' ∧ u.oneCell' = true ∧ u'.oneCell' = true ∧ Calls Tryz.prog 18 #[u, u'] W fun e w' => e = .returned (.bool true) ∧ KF W w') := fun i hi => by
  obtain ⟨g, c, e, hl⟩ := h1.look (by omega)
  obtain ⟨g', c', e', hl'⟩ := h1'.look (by omega)
  rw [e1] at e
  rw [e1'] at e'
  cases e
  cases e'
  obtain ⟨u, u0, u1⟩ := hl w (Kept.refl _ _) i hi
  obtain ⟨u', u0', u1'⟩ := hl' w (Kept.refl _ _) i hi
  refine ⟨g, g', u, u', rfl, rfl, fun W hW => ⟨hW.cell u0 id, hW.cell u0' id, ?_, ?_, same_true _ _ _ W 0 0 (hW.ownsRow u1 (fun _ _ f => f)) (hW.ownsRow u1' (fun _ _ f => f)) (hb.hh i)⟩⟩
  ·obtain ⟨a, b, e⟩ := ownsRow_shape u1; rw [e]; rfl
  ·obtain ⟨a, b, e⟩ := ownsRow_shape u1'; rw [e]; rfl
 have HLS : Hid (∀ i, i < nf → ∃ g g' u u', la = some ⟨g, 0, none⟩ ∧ la' = some ⟨g', 0, none⟩ ∧ ∀ W, KF w W → W.cell? ⟨g, i, none⟩ = some u ∧ W.cell? ⟨g', i, none⟩ = some u' ∧ u.oneCell' = true ∧ u'.oneCell' = true ∧ Calls Tryz.prog 18 #[u, u'] W fun e w' => e = .returned (.bool true) ∧ KF W w') := fun i hi => by
  obtain ⟨g, c, e, hl⟩ := h3.look (by omega)
  obtain ⟨g', c', e', hl'⟩ := h3'.look (by omega)
  rw [e3] at e
  rw [e3'] at e'
  cases e
  cases e'
  obtain ⟨u, u0, u1⟩ := hl w (Kept.refl _ _) i hi
  obtain ⟨u', u0', u1'⟩ := hl' w (Kept.refl _ _) i hi
  refine ⟨g, g', u, u', rfl, rfl, fun W hW => ⟨hW.cell u0 id, hW.cell u0' id, ?_, ?_, same_true _ _ _ W 0 0 (hW.ownsRow u1 (fun _ _ f => f)) (hW.ownsRow u1' (fun _ _ f => f)) (hb.ll i)⟩⟩
  ·obtain ⟨a, b, e⟩ := ownsRow_shape u1; rw [e]; rfl
  ·obtain ⟨a, b, e⟩ := ownsRow_shape u1'; rw [e]; rfl
 have HIS : Hid (∀ i, i < nf → ∃ g g' x, ia = some ⟨g, 0, none⟩ ∧ ia' = some ⟨g', 0, none⟩ ∧ ∀ W, KF w W → W.cell? ⟨g, i, none⟩ = some (.bool x) ∧ W.cell? ⟨g', i, none⟩ = some (.bool x)) := fun i hi => by
  obtain ⟨g, c, e⟩ := own_at9k h4 (by omega)
  obtain ⟨g', c', e'⟩ := own_at9k h4' (by omega)
  rw [e4] at e
  rw [e4'] at e'
  cases e
  cases e'
  rw [e4] at h4
  rw [e4'] at h4'
  exact ⟨g, g', _, rfl, rfl, fun W hW => ⟨hW.cell (rowB_at h4 hb.li hi).1 id, hW.cell (rowB_at h4' hb.li hi).1 id⟩⟩
 generalize fx.cells = cc at *
 generalize fx.cost = cd at *
 obtain ⟨tl, htl⟩ := nmd (fx.tops.length)
 rw [← htl] at e2 e2'
 subst e1 e1' e2 e2' e3 e3' e4 e4'
 obtain ⟨g1, hg1⟩ := nmd (w.heap.size)
 obtain ⟨W, hW⟩ := nmd ((w.alloc (.cells #[.slice ha nf hc, .slice ta tl tc, .slice la nf lc, .slice ia nf ic, .int .i64 cc, .int .i64 cd] 33)).alloc (.cells #[.slice ha' nf hc', .slice ta' tl tc', .slice la' nf lc', .slice ia' nf ic', .int .i64 cc, .int .i64 cd] 33))
 obtain ⟨hkW, hb1, hb2⟩ := allocs2 _ _ _ _ _ _ hW
 rw [← hg1] at hb1 hb2
 have HKW := hid_of hkW
 have HBX : Hid (∀ W', KF W W' → (W'.cell? ⟨g1, 0, none⟩ = some (.slice ha nf hc) ∧ W'.cell? ⟨g1, 1, none⟩ = some (.slice ta tl tc) ∧ W'.cell? ⟨g1, 2, none⟩ = some (.slice la nf lc) ∧ W'.cell? ⟨g1, 3, none⟩ = some (.slice ia nf ic) ∧ W'.cell? ⟨g1, 4, none⟩ = some (.int .i64 cc) ∧ W'.cell? ⟨g1, 5, none⟩ = some (.int .i64 cd)) ∧ (W'.cell? ⟨g1 + 1, 0, none⟩ = some (.slice ha' nf hc') ∧ W'.cell? ⟨g1 + 1, 1, none⟩ = some (.slice ta' tl tc') ∧ W'.cell? ⟨g1 + 1, 2, none⟩ = some (.slice la' nf lc') ∧ W'.cell? ⟨g1 + 1, 3, none⟩ = some (.slice ia' nf ic') ∧ W'.cell? ⟨g1 + 1, 4, none⟩ = some (.int .i64 cc) ∧ W'.cell? ⟨g1 + 1, 5, none⟩ = some (.int .i64 cd))) := fun W' hw => ⟨look6k (box_kept hw hb1 id), look6k (box_kept hw hb2 id)⟩
 obtain ⟨⟨c0, c1, c2, c3, c4, c5⟩, d0, d1, d2, d3, d4, d5⟩ := HBX.out W (Kept.refl _ _)
 clear h1 h1' h2 h2' h3 h3' h4 h4' hkW hb1 hb2 htl hb
 go_enter Tryz.func15, Tryz.ntmps15
 go_upto_region 1 with fail
 rw [← hW, ← hg1]
 clear hW hg1
 go_wp2_with fail
 refine (HTS.out W HKW.out).mono ?_
 rintro e w1 ⟨rfl, hk1⟩
 have HK1 := hid_of hk1
 clear hk1 HTS c0 c1 c2 c3 c4 c5 d0 d1 d2 d3 d4 d5
 obtain ⟨⟨c0, c1, c2, c3, c4, c5⟩, d0, d1, d2, d3, d4, d5⟩ := HBX.out w1 HK1.out
 go_wp2_with fail
 clear c0 c1 c2 c3 c4 c5 d0 d1 d2 d3 d4 d5
 go_loopw [5] (fun iv wr => ∃ i : Nat, i ≤ nf ∧ iv = .int .i64 (i : Int) ∧ Hid (KF W wr)) (fun iv _ => nf - (intOf iv).toNat)
 case atStart => exact ⟨0, by omega, rfl, HK1⟩
 case round =>
  clear HK1
  obtain ⟨i, hi, rfl, HKR⟩ := hrel
  obtain ⟨⟨c0, c1, c2, c3, c4, c5⟩, d0, d1, d2, d3, d4, d5⟩ := HBX.out wr HKR.out
  by_cases hlt : i < nf
  ·as_aux_lemma =>
    have hltI : (i : Int) < (nf : Int) := by omega
    obtain ⟨g, g', u, u', rfl, rfl, hu⟩ := HHS.out i hlt
    have HU := hid_of hu
    clear hu HHS HLS HIS
    go_upto_region 6 with fail
    clear c0 c1 c2 c3 c4 c5 d0 d1 d2 d3 d4 d5
    refine wp_region_held_drew (S := fun w' => KF wr w') (by kernel_rfl) ((Kept.refl _ _).drew) (fun hHeld => ?_)
    generalize wr.drew = wd at *
    iterate 10
     refine tkn (v := ?_) 0 rfl ?_ ?_; rotate_left 1
     ·intro w hSw; obtain ⟨⟨c0, c1, c2, c3, c4, c5⟩, d0, d1, d2, d3, d4, d5⟩ := HBX.out w (HKR.out.trans hSw); obtain ⟨z0, z1, o1, o2, _⟩ := HU.out w ((HKW.out.trans HKR.out).trans hSw); go_simp; try with_reducible rfl
     try simp only [Act.put, tdy]
    have HSA := hid_of (HU.out wd ((HKW.out.trans HKR.out).trans hHeld)).2.2.2.2
    refine rdy 10 rfl (fun K hK => ?_)
    go_simp
    refine HSA.out.mono ?_
    rintro e w3 ⟨rfl, hk3⟩
    have hkk := hHeld.trans hk3
    refine hK.out _ _ hkk (fun hHeld => ?_)
    clear hK K
    try simp only [Act.put, tdy]
    iterate 1
     refine tkn (v := ?_) 11 rfl ?_ ?_; rotate_left 1
     ·intro w hSw; go_simp; try with_reducible rfl
     try simp only [Act.put, tdy]
    refine wpAnyH_done (by kernel_rfl) ?_ _
    have HK3 := hid_of (HKR.out.trans hkk)
    clear hHeld hkk hk3 HSA HU
    go_wp2_with fail
    go_roundw
    case rel => exact ⟨i + 1, by omega, by go_num, HK3⟩
    case measure => simp [intOf]; omega
  ·as_aux_lemma =>
    have hltI : ¬ ((i : Int) < (nf : Int)) := by omega
    clear HHS
    go_upto_region 8 with fail
    clear c0 c1 c2 c3 c4 c5 d0 d1 d2 d3 d4 d5 hltI hlt hi
    go_wp2_with fail
    go_loopw [6] (fun iv wr => ∃ i : Nat, i ≤ nf ∧ iv = .int .i64 (i : Int) ∧ Hid (KF W wr)) (fun iv _ => nf - (intOf iv).toNat)
    case atStart => exact ⟨0, by omega, rfl, HKR⟩
    case round =>
     clear HKR
     obtain ⟨i, hi, rfl, HKR⟩ := hrel
     obtain ⟨⟨c0, c1, c2, c3, c4, c5⟩, d0, d1, d2, d3, d4, d5⟩ := HBX.out wr HKR.out
     by_cases hlt : i < nf
     ·as_aux_lemma =>
       have hltI : (i : Int) < (nf : Int) := by omega
       obtain ⟨g, g', u, u', rfl, rfl, hu⟩ := HLS.out i hlt
       have HU := hid_of hu
       clear hu HLS HIS
       go_upto_region 11 with fail
       clear c0 c1 c2 c3 c4 c5 d0 d1 d2 d3 d4 d5
       refine wp_region_held_drew (S := fun w' => KF wr w') (by kernel_rfl) ((Kept.refl _ _).drew) (fun hHeld => ?_)
       generalize wr.drew = wd at *
       iterate 10
        refine tkn (v := ?_) 0 rfl ?_ ?_; rotate_left 1
        ·intro w hSw; obtain ⟨⟨c0, c1, c2, c3, c4, c5⟩, d0, d1, d2, d3, d4, d5⟩ := HBX.out w (HKR.out.trans hSw); obtain ⟨z0, z1, o1, o2, _⟩ := HU.out w ((HKW.out.trans HKR.out).trans hSw); go_simp; try with_reducible rfl
        try simp only [Act.put, tdy]
       have HSA := hid_of (HU.out wd ((HKW.out.trans HKR.out).trans hHeld)).2.2.2.2
       refine rdy 10 rfl (fun K hK => ?_)
       go_simp
       refine HSA.out.mono ?_
       rintro e w3 ⟨rfl, hk3⟩
       have hkk := hHeld.trans hk3
       refine hK.out _ _ hkk (fun hHeld => ?_)
       clear hK K
       try simp only [Act.put, tdy]
       iterate 1
        refine tkn (v := ?_) 11 rfl ?_ ?_; rotate_left 1
        ·intro w hSw; go_simp; try with_reducible rfl
        try simp only [Act.put, tdy]
       refine wpAnyH_done (by kernel_rfl) ?_ _
       have HK3 := hid_of (HKR.out.trans hkk)
       clear hHeld hkk hk3 HSA HU
       go_wp2_with fail
       go_roundw
       case rel => exact ⟨i + 1, by omega, by go_num, HK3⟩
       case measure => simp [intOf]; omega
     ·as_aux_lemma =>
       have hltI : ¬ ((i : Int) < (nf : Int)) := by omega
       clear HLS
       go_upto_region 13 with fail
       clear c0 c1 c2 c3 c4 c5 d0 d1 d2 d3 d4 d5 hltI hlt hi
       go_wp2_with fail
       go_loopw [7] (fun iv wr => ∃ i : Nat, i ≤ nf ∧ iv = .int .i64 (i : Int) ∧ Hid (KF W wr)) (fun iv _ => nf - (intOf iv).toNat)
       case atStart => exact ⟨0, by omega, rfl, HKR⟩
       case round =>
        clear HKR
        obtain ⟨i, hi, rfl, HKR⟩ := hrel
        obtain ⟨⟨c0, c1, c2, c3, c4, c5⟩, d0, d1, d2, d3, d4, d5⟩ := HBX.out wr HKR.out
        by_cases hlt : i < nf
        ·as_aux_lemma =>
          have hltI : (i : Int) < (nf : Int) := by omega
          obtain ⟨g, g', x, rfl, rfl, hu⟩ := HIS.out i hlt
          have HU := hid_of hu
          clear hu HIS
          go_upto_region 16 with fail
          clear c0 c1 c2 c3 c4 c5 d0 d1 d2 d3 d4 d5
          refine wp_region_held_drew (S := fun w' => KF wr w') (by kernel_rfl) ((Kept.refl _ _).drew) (fun hHeld => ?_)
          generalize wr.drew = wd at *
          iterate 11
           refine tkn (v := ?_) 0 rfl ?_ ?_; rotate_left 1
           ·intro w hSw; obtain ⟨⟨c0, c1, c2, c3, c4, c5⟩, d0, d1, d2, d3, d4, d5⟩ := HBX.out w (HKR.out.trans hSw); obtain ⟨z0, z1⟩ := HU.out w ((HKW.out.trans HKR.out).trans hSw); go_simp; try with_reducible rfl
           try simp only [Act.put, tdy]
          refine wpAnyH_done (by kernel_rfl) ?_ _
          have HK3 := hid_of (HKR.out.trans hHeld)
          clear hHeld HU
          go_wp2_with fail
          go_roundw
          case rel => exact ⟨i + 1, by omega, by go_num, HK3⟩
          case measure => simp [intOf]; omega
        ·as_aux_lemma =>
          have hltI : ¬ ((i : Int) < (nf : Int)) := by omega
          have HKX := hid_of (HKW.out.trans HKR.out)
          go_wp2
          go_ret
          exact ⟨rfl, HKX.out⟩
theorem own_blk {w : World} {b e s n : Nat} {v : Value} {xs : List Value} (h : w.ownsRow b e s v n xs) {q : Nat} (hq : v.ownBlock = some q) : ∃ cs, w.heap[q]? = some (.cells cs e (0, 0)) := by
 rcases h.2 with ⟨rfl, _⟩ | ⟨g, cap, cur, rfl, _, hgg, _⟩
 ·cases hq
 ·simp [Value.ownBlock] at hq
  subst hq
  exact ⟨cur, hgg⟩
theorem LentQ.typ {base : Nat} {w : World} {gd dc gf fc : Nat} {p : PG} {cvs : List Value} (h : LentQ base w gd dc gf fc p cvs) {q : Nat} (hq : LBlk gd gf cvs q) : ∃ cs t, w.heap[q]? = some (.cells cs t (0, 0)) ∧ t ≠ 30 ∧ t ≠ 3 ∧ t ≠ 4 := by
 rcases hq with rfl | rfl | ⟨c, hc, hq⟩
 ·obtain ⟨cs, h1⟩ := own_blk h.dat (q := q) rfl
  exact ⟨cs, 5, h1, by decide, by decide, by decide⟩
 ·obtain ⟨cs, h1⟩ := own_blk h.rows.row (q := q) rfl
  exact ⟨cs, 56, h1, by decide, by decide, by decide⟩
 ·obtain ⟨i, hi, rfl⟩ := List.getElem_of_mem hc
  obtain ⟨v, n, xs, h1, h2⟩ := h.rows.code (List.getElem?_eq_getElem hi)
  obtain ⟨cs, h3⟩ := own_blk h1 (q := q) (by rw [h2]; exact hq)
  exact ⟨cs, 64, h3, by decide, by decide, by decide⟩
theorem fcB_of {p : PG} {bs : List BD} (h : Bs p bs) : FcB p.fns.length (factsP p bs) := by
 obtain ⟨hn, _⟩ := plain_ok p h.pl
 have key : ∀ i, i < bs.length → (bs.getD i bd0).hs.length ≤ 4096 ∧ (bs.getD i bd0).loops.length ≤ 4096 := fun i hi => by
  obtain ⟨f, b, hb⟩ := h.in' hi
  rw [hb.gd]
  obtain ⟨e1, e2, e3, hh⟩ := body_shape hb.bd
  have h1 := (heights_fit _ _ hb.ok b.hs hh).len
  have h2 := hb.fo.n.2
  refine ⟨by omega, ?_⟩
  rw [e2]
  unfold loopsF
  rw [List.length_map]
  exact Nat.le_trans (List.length_filter_le _ _) (by simp; exact h2)
 have hl : ∀ (i : Nat) (F : BD → List Int), (∀ j, j < bs.length → (F (bs.getD j bd0)).length ≤ 4096) → ((bs.map F).getD i []).length ≤ 10000 := fun i F hF => by
  by_cases hi : i < bs.length
  ·have e : (bs.map F).getD i [] = F (bs.getD i bd0) := by simp [List.getD, List.getElem?_eq_getElem hi]
   rw [e]
   have := hF i hi
   omega
  ·have e : (bs.map F).getD i [] = [] := by simp [List.getD, List.getElem?_eq_none (Nat.le_of_not_lt hi)]
   rw [e]
   simp
 refine ⟨fun i => hl i BD.hs (fun j hj => (key j hj).1), fun i => hl i BD.loops (fun j hj => (key j hj).2), ?_, ?_, by omega⟩
 ·show (bs.map topP).length ≤ _
  rw [List.length_map, h.len]
  omega
 ·rw [live_length, h.len]
theorem fc_of {w : World} {B nf : Nat} {v : Value} {fx : FX} (h : FactsAt w B nf v fx) (h1 : fx.heights.length = nf) (h2 : fx.loops.length = nf) : FcAt w nf v fx := by
 obtain ⟨hvv, tvv, lvv, gl, HV, LV, e, a1, a2, a3, a4, a5, a6⟩ := h
 exact ⟨hvv, tvv, lvv, _, e, ⟨HV, own_mono a1 (Nat.zero_le _), h1, a2⟩, own_mono a3 (Nat.zero_le _), ⟨LV, own_mono a4 (Nat.zero_le _), h2, a5⟩, own_mono a6 (Nat.zero_le _)⟩
theorem FcAt.over {S : Nat → Prop} {w w' : World} {nf : Nat} {v : Value} {fx : FX} (h : FcAt w nf v fx) (hk : Kept S w w') (hS : ∀ q, S q → ∃ cs t, w.heap[q]? = some (.cells cs t (0, 0)) ∧ t ≠ 30 ∧ t ≠ 3 ∧ t ≠ 4) : FcAt w' nf v fx := by
 have hr : ∀ {b e s n : Nat} {u : Value} {xs : List Value}, w.ownsRow b e s u n xs → (e = 30 ∨ e = 3 ∨ e = 4) → w'.ownsRow b e s u n xs := fun hr he => hk.ownsRow hr (fun q hq hs => by
  obtain ⟨cs, t, hbx, t1, t2, t3⟩ := hS q hs
  exact own_box2 hr hbx (by rcases he with rfl | rfl | rfl <;> assumption) hq)
 obtain ⟨hvv, tvv, lvv, liv, e, ⟨HV, h1, h1b, h1c⟩, h2, ⟨LV, h3, h3b, h3c⟩, h4⟩ := h
 refine ⟨hvv, tvv, lvv, liv, e, ⟨HV, hr h1 (by decide), h1b, fun i l hl => ?_⟩, hr h2 (by decide), ⟨LV, hr h3 (by decide), h3b, fun i l hl => ?_⟩, hr h4 (by decide)⟩
 ·obtain ⟨u, a, b⟩ := h1c i l hl
  exact ⟨u, a, hr b (by decide)⟩
 ·obtain ⟨u, a, b⟩ := h3c i l hl
  exact ⟨u, a, hr b (by decide)⟩
set_option maxHeartbeats 40000000 in
theorem runs_walk (v : Value) (p : PG) (w : World) (B : Nat) (h : PgIs w B v p) (hB : B ≤ w.heap.size) (ho : p.Ok) :
  Calls Tryz.prog 3 #[v] w fun e w' => e = .returned (.bool true) ∧ KF w w' := by
 have hpg := h
 obtain ⟨dv, fv, rfl, hd, hdl, hf⟩ := h
 obtain ⟨dao, dc, rfl⟩ := hd.shape
 obtain ⟨fao, fc, rfl⟩ := hf.shape
 obtain ⟨nf, hnf⟩ := nmd (p.fns.length)
 obtain ⟨nd, hnd⟩ := nmd (p.data.length)
 obtain ⟨mem, hmem⟩ := nmd (p.mem)
 have HLV : Hid (∀ gd dl gf fl, lentQ p gd dl gf fl = .agg #[.int .i64 mem, .slice (some ⟨gd, 0, none⟩) nd dl, .slice (some ⟨gf, 0, none⟩) nf fl]) := fun _ _ _ _ => by rw [hmem, hnd, hnf]; rfl
 rw [← hnf, ← hnd, ← hmem] at hpg ⊢
 obtain ⟨gb, hgb⟩ := nmd (w.heap.size)
 obtain ⟨W, hW⟩ := nmd (w.alloc (.cells #[.int .i64 mem, .slice dao nd dc, .slice fao nf fc] 25))
 have k1 : KF w W := by rw [hW]; exact (Kept.refl _ _).alloc _
 have x1 : W.heap[gb]? = some (.cells #[.int .i64 mem, .slice dao nd dc, .slice fao nf fc] 25 (0, 0)) := by rw [hW, hgb]; exact heap_alloc_new w _
 have HKW := hid_of k1
 have HB1 := hid_of x1
 have HPG := hid_of (hpg.kept k1 (fun _ _ f => f))
 have HBW : Hid (B ≤ W.heap.size) := Nat.le_trans hB k1.size
 have HO := hid_of ho
 have HNF := hid_of hnf
 have HGW : Hid (gb < W.heap.size) := (Array.getElem?_eq_some_iff.1 x1).1
 have HAL := hid_of (all_any _ p W B HPG.out ho)
 have c0 := cell_block _ _ 0 _ _ _ x1
 have c1 := cell_block _ _ 1 _ _ _ x1
 have c2 := cell_block _ _ 2 _ _ _ x1
 clear x1 k1 hd hdl hf hnf hnd hmem hpg ho hB
 go_enter Tryz.func3, Tryz.ntmps3
 go_upto_region 1 with fail
 rw [← hW, ← hgb]
 clear hW hgb
 go_wp2_with fail
 refine HAL.out.mono ?_
 rintro e w1 ⟨⟨na, rfl⟩, hk1⟩
 have HK1 := hid_of hk1
 clear hk1 HAL c0 c1 c2
 by_cases hna : 4000 < na
 ·go_wp2_with fail
  refine (head_any w1).mono ?_
  rintro e w9 ⟨rfl, hk9⟩
  have HK9 := hid_of ((HKW.out.trans HK1.out).trans hk9)
  clear hk9
  go_wp2
  go_ret
  exact ⟨rfl, HK9.out⟩
 ·have hnb : decide (4000 < na) = false := by simp; omega
  have HLD := hid_of (lend_q _ p w1 B (HPG.out.kept HK1.out (fun _ _ f => f)) (Nat.le_trans HBW.out HK1.out.size) HO.out)
  have hb1 := box_kept HK1.out HB1.out id
  have c0 := cell_block _ _ 0 _ _ _ hb1
  have c1 := cell_block _ _ 1 _ _ _ hb1
  have c2 := cell_block _ _ 2 _ _ _ hb1
  clear hb1
  go_wp2_with fail
  refine HLD.out.mono ?_
  rintro e wl ⟨hkl, gd, dl, gf, fl, cvs, rfl, hlq⟩
  rw [HLV.out]
  have hpl := hlq.pg
  rw [HLV.out] at hpl
  have HX6 := hid_of (heap_alloc_new wl (.cells #[.int .i64 mem, .slice (some ⟨gd, 0, none⟩) nd dl, .slice (some ⟨gf, 0, none⟩) nf fl] 25))
  have hka : KF wl (wl.alloc (.cells #[.int .i64 mem, .slice (some ⟨gd, 0, none⟩) nd dl, .slice (some ⟨gf, 0, none⟩) nf fl] 25)) := (Kept.refl _ _).alloc _
  have HKL := hid_of (HK1.out.trans (hkl.trans hka))
  have HLQ := hid_of (hlq.kept hka (fun _ _ f => f))
  have HPL := hid_of (hpl.kept hka (fun _ _ f => f))
  have HLB : Hid (∀ q, LBlk gd gf cvs q → w1.heap.size ≤ q ∧ q < wl.heap.size) := fun q hq => hlq.blk hq
  have HS1 : Hid (wl.heap.size ≤ (wl.alloc (.cells #[.int .i64 mem, .slice (some ⟨gd, 0, none⟩) nd dl, .slice (some ⟨gf, 0, none⟩) nf fl] 25)).heap.size) := hka.size
  have HS0 : Hid (W.heap.size ≤ w1.heap.size ∧ w1.heap.size ≤ wl.heap.size) := ⟨HK1.out.size, hkl.size⟩
  clear hkl hlq hpl hka HLD c0 c1 c2 hnb hna
  go_upto_region 4 with fail
  generalize wl.alloc (.cells #[.int .i64 mem, .slice (some ⟨gd, 0, none⟩) nd dl, .slice (some ⟨gf, 0, none⟩) nf fl] 25) = w2 at *
  generalize wl.heap.size = g6 at *
  have hRN := run_any _ p w2 g6 HPL.out HS1.out HO.out
  rw [← HNF.out] at hRN
  have HRN := hid_of hRN
  have c0 := cell_block _ _ 0 _ _ _ HX6.out
  have c1 := cell_block _ _ 1 _ _ _ HX6.out
  have c2 := cell_block _ _ 2 _ _ _ HX6.out
  clear hRN
  go_wp2_with fail
  refine HRN.out.mono ?_
  rintro e w3 ⟨hk3, hm⟩
  have HK3 := hid_of hk3
  clear hk3 HRN c0 c1 c2
  have HHE : Hid (∀ W', KF w2 W' → Calls Tryz.prog 13 #[.agg #[.int .i64 mem, .slice (some ⟨gd, 0, none⟩) nd dl, .slice (some ⟨gf, 0, none⟩) nf fl], .agg #[.int .i64 mem, .slice dao nd dc, .slice fao nf fc]] W' fun e w' => e = .returned (.bool true) ∧ Kept (LBlk gd gf cvs) W' w') := fun W' hW' => by
   have h9 := held_q w1.heap.size gd dl gf fl cvs (.agg #[.int .i64 mem, .slice dao nd dc, .slice fao nf fc]) p W' B (HLQ.out.kept hW' (fun _ _ f => f)) (HPG.out.kept (HKL.out.trans hW') (fun _ _ f => f)) (Nat.le_trans HBW.out HS0.out.1) (by have := HS0.out; have := HS1.out; have := hW'.size; omega) HO.out
   rw [HLV.out] at h9
   exact h9
  have HSY : Hid (∀ W' w', KF w2 W' → Kept (LBlk gd gf cvs) W' w' → (w'.cell? ⟨gb, 0, none⟩ = some (.int .i64 mem) ∧ w'.cell? ⟨gb, 1, none⟩ = some (.slice dao nd dc) ∧ w'.cell? ⟨gb, 2, none⟩ = some (.slice fao nf fc)) ∧ KF W w' ∧ PgIs w' B (.agg #[.int .i64 mem, .slice dao nd dc, .slice fao nf fc]) p ∧ B ≤ w'.heap.size) := fun W' w' hW' hw => by
   have hk9 : KF W w' := (HKL.out.trans hW').step hw (fun i hi e => by have h1 := (HLB.out i e).1; have h2 := HS0.out; omega)
   obtain ⟨z0, z1, z2, _⟩ := look3 (box_kept hk9 HB1.out id)
   exact ⟨⟨z0, z1, z2⟩, hk9, HPG.out.kept hk9 (fun _ _ f => f), Nat.le_trans HBW.out hk9.size⟩
  cases hrd : runD p with
  | error z =>
   as_aux_lemma =>
    obtain ⟨y, fi, fa⟩ := z
    rw [hrd] at hm
    obtain ⟨hy, he⟩ := hm
    subst he
    obtain ⟨w4, hw4⟩ := nmd ((w3.alloc (.cells #[.slice none 0 0, .slice none 0 0, .slice none 0 0, .slice none 0 0, .int .i64 0, .int .i64 0] 33)).alloc (.cells #[.int .i64 y, .int .i64 fi, .int .i64 fa] 38))
    obtain ⟨k4, x5, x6⟩ := allocs2 _ _ _ _ _ _ hw4
    have hk24 := HK3.out.trans k4
    have HX5 := hid_of x5
    have HX7 := hid_of x6
    have HF4 : Hid (FcAt w4 0 (.agg #[.slice none 0 0, .slice none 0 0, .slice none 0 0, .slice none 0 0, .int .i64 0, .int .i64 0]) ⟨[], [], [], [], 0, 0⟩) := FcAt.none _
    have HK24 := hid_of hk24
    have HS3 : Hid (g6 < w2.heap.size ∧ w2.heap.size ≤ w3.heap.size) := ⟨(Array.getElem?_eq_some_iff.1 HX6.out).1, HK3.out.size⟩
    clear x5 x6 k4 hk24
    go_upto_region 5 with fail
    rw [← hw4]
    clear hw4
    generalize w3.heap.size = g7 at *
    obtain ⟨c0, c1, c2, _⟩ := look3 (box_kept HK24.out HX6.out id)
    obtain ⟨d0, d1, d2, _⟩ := look3 (box_kept (HKL.out.trans HK24.out) HB1.out id)
    go_wp2_with fail
    refine (HHE.out w4 HK24.out).mono ?_
    rintro e w5 ⟨rfl, hk5⟩
    have hty : ∀ q, LBlk gd gf cvs q → ∃ cs t, w4.heap[q]? = some (.cells cs t (0, 0)) ∧ t ≠ 30 ∧ t ≠ 3 ∧ t ≠ 4 := fun q hq => (HLQ.out.kept HK24.out (fun _ _ f => f)).typ hq
    have HF5 := hid_of (HF4.out.over hk5 hty)
    have hn7 : ¬ LBlk gd gf cvs g7 := fun e => by have h1 := (HLB.out _ e).2; have h2 := HS3.out; omega
    have hn8 : ¬ LBlk gd gf cvs (g7 + 1) := fun e => by have h1 := (HLB.out _ e).2; have h2 := HS3.out; omega
    have HX5' := hid_of (box_kept hk5 HX5.out hn7)
    have HX7' := hid_of (box_kept hk5 HX7.out hn8)
    obtain ⟨⟨z0, z1, z2⟩, hkW5, hpg5, hB5⟩ := HSY.out w4 w5 HK24.out hk5
    have hRR := rrun_any _ p w5 B hpg5 hB5 HO.out
    rw [← HNF.out] at hRR
    have HRR := hid_of hRR
    have HKW5 := hid_of hkW5
    clear hk5 hty hn7 hn8 hkW5 hpg5 hB5 hRR HHE HSY HLQ HPL HLB c0 c1 c2 d0 d1 d2 HX5 HX7 HF4 HK24 HX6
    go_wp2_with fail
    refine HRR.out.mono ?_
    rintro e w6 ⟨hk6, hm2⟩
    rw [hrd] at hm2
    obtain ⟨_, he⟩ := hm2
    subst he
    obtain ⟨w7, hw7⟩ := nmd ((w6.alloc (.cells #[.slice none 0 0, .slice none 0 0, .slice none 0 0, .slice none 0 0, .int .i64 0, .int .i64 0] 33)).alloc (.cells #[.int .i64 y, .int .i64 fi, .int .i64 fa] 38))
    obtain ⟨k7, y5, y6⟩ := allocs2 _ _ _ _ _ _ hw7
    have hk67 := hk6.trans k7
    have HF7 := hid_of (HF5.out.same hk67)
    have HG7 : Hid (FcAt w7 0 (.agg #[.slice none 0 0, .slice none 0 0, .slice none 0 0, .slice none 0 0, .int .i64 0, .int .i64 0]) ⟨[], [], [], [], 0, 0⟩) := FcAt.none _
    have HFS := hid_of (facts_same _ _ 0 ⟨[], [], [], [], 0, 0⟩ w7 FcB.none HF7.out HG7.out)
    have HK7 := hid_of (HKW5.out.trans hk67)
    obtain ⟨p0, p1, p2, _⟩ := look3 (box_kept hk67 HX7'.out id)
    obtain ⟨q0, q1, q2, _⟩ := look3 y6
    obtain ⟨a0, a1, a2, a3, a4, a5⟩ := look6k (box_kept hk67 HX5'.out id)
    obtain ⟨b0, b1, b2, b3, b4, b5⟩ := look6k y5
    clear hk6 k7 hk67 y5 y6 HF7 HG7 HF5 HX5' HX7' HRR z0 z1 z2 hrd hy
    go_upto_region 8 with fail
    rw [← hw7]
    clear hw7
    go_wp2_with fail
    refine HFS.out.mono ?_
    rintro e w8 ⟨rfl, hk8⟩
    have HK8 := hid_of (HK7.out.trans hk8)
    clear hk8 HFS p0 p1 p2 q0 q1 q2 a0 a1 a2 a3 a4 a5 b0 b1 b2 b3 b4 b5
    go_wp2_with fail
    refine (head_any w8).mono ?_
    rintro e w9 ⟨rfl, hk9⟩
    have HK9 := hid_of ((HKW.out.trans HK8.out).trans hk9)
    clear hk9
    go_wp2
    go_ret
    exact ⟨rfl, HK9.out⟩
  | ok fx =>
   as_aux_lemma =>
    rw [hrd] at hm
    obtain ⟨fv1, he, hfa⟩ := hm
    subst he
    obtain ⟨bs, hBs, hfx⟩ := run_bs hrd
    have hfb := fcB_of hBs
    rw [← hfx, ← HNF.out] at hfb
    have HFB := hid_of hfb
    have hl1 : fx.heights.length = nf := by rw [hfx]; show (bs.map BD.hs).length = nf; rw [List.length_map, hBs.len, HNF.out]
    have hl2 : fx.loops.length = nf := by rw [hfx]; show (bs.map BD.loops).length = nf; rw [List.length_map, hBs.len, HNF.out]
    have HL1 := hid_of hl1
    have HL2 := hid_of hl2
    obtain ⟨tl, htl⟩ := nmd (fx.tops.length)
    obtain ⟨fcl, hfcl⟩ := nmd (fx.cells)
    obtain ⟨fco, hfco⟩ := nmd (fx.cost)
    obtain ⟨hvv, tvv, lvv, gl, HV, LV, e9, r1, r2, r3, r4, r5, r6⟩ := id hfa
    obtain ⟨ha, hc, s1⟩ := ownsRow_shape r1
    obtain ⟨ta, tc, s2⟩ := ownsRow_shape r3
    obtain ⟨la, lc, s3⟩ := ownsRow_shape r4
    rw [← htl] at s2
    subst s1 s2 s3
    rw [← hfcl, ← hfco] at e9
    subst e9
    have HFA1 := hid_of (fc_of hfa hl1 hl2)
    have HTL := hid_of htl
    have HCL := hid_of hfcl
    have HCO := hid_of hfco
    clear r1 r2 r3 r4 r5 r6 hfa hBs hfx hfb hl1 hl2 htl hfcl hfco
    obtain ⟨w4, hw4⟩ := nmd ((w3.alloc (.cells #[.slice ha nf hc, .slice ta tl tc, .slice la nf lc, .slice (some ⟨gl, 0, none⟩) nf nf, .int .i64 fcl, .int .i64 fco] 33)).alloc (.cells #[.int .i64 0, .int .i64 0, .int .i64 0] 38))
    obtain ⟨k4, x5, x6⟩ := allocs2 _ _ _ _ _ _ hw4
    have hk24 := HK3.out.trans k4
    have HX5 := hid_of x5
    have HX7 := hid_of x6
    have HF4 : Hid (FcAt w4 nf (.agg #[.slice ha nf hc, .slice ta tl tc, .slice la nf lc, .slice (some ⟨gl, 0, none⟩) nf nf, .int .i64 fcl, .int .i64 fco]) fx) := HFA1.out.same k4
    have HK24 := hid_of hk24
    have HS3 : Hid (g6 < w2.heap.size ∧ w2.heap.size ≤ w3.heap.size) := ⟨(Array.getElem?_eq_some_iff.1 HX6.out).1, HK3.out.size⟩
    clear x5 x6 k4 hk24
    go_upto_region 5 with fail
    rw [← hw4]
    clear hw4
    generalize w3.heap.size = g7 at *
    obtain ⟨c0, c1, c2, _⟩ := look3 (box_kept HK24.out HX6.out id)
    obtain ⟨d0, d1, d2, _⟩ := look3 (box_kept (HKL.out.trans HK24.out) HB1.out id)
    go_wp2_with fail
    refine (HHE.out w4 HK24.out).mono ?_
    rintro e w5 ⟨rfl, hk5⟩
    have hty : ∀ q, LBlk gd gf cvs q → ∃ cs t, w4.heap[q]? = some (.cells cs t (0, 0)) ∧ t ≠ 30 ∧ t ≠ 3 ∧ t ≠ 4 := fun q hq => (HLQ.out.kept HK24.out (fun _ _ f => f)).typ hq
    have HF5 := hid_of (HF4.out.over hk5 hty)
    have hn7 : ¬ LBlk gd gf cvs g7 := fun e => by have h1 := (HLB.out _ e).2; have h2 := HS3.out; omega
    have hn8 : ¬ LBlk gd gf cvs (g7 + 1) := fun e => by have h1 := (HLB.out _ e).2; have h2 := HS3.out; omega
    have HX5' := hid_of (box_kept hk5 HX5.out hn7)
    have HX7' := hid_of (box_kept hk5 HX7.out hn8)
    obtain ⟨⟨z0, z1, z2⟩, hkW5, hpg5, hB5⟩ := HSY.out w4 w5 HK24.out hk5
    have hRR := rrun_any _ p w5 B hpg5 hB5 HO.out
    rw [← HNF.out] at hRR
    have HRR := hid_of hRR
    have HKW5 := hid_of hkW5
    clear hk5 hty hn7 hn8 hkW5 hpg5 hB5 hRR HHE HSY HLQ HPL HLB c0 c1 c2 d0 d1 d2 HX5 HX7 HF4 HK24 HX6
    go_wp2_with fail
    refine HRR.out.mono ?_
    rintro e w6 ⟨hk6, hm2⟩
    rw [hrd] at hm2
    obtain ⟨fv2, he, hfa2⟩ := hm2
    subst he
    have htl := HTL.out
    have hfcl := HCL.out
    have hfco := HCO.out
    obtain ⟨hvv', tvv', lvv', gl', HV', LV', e9, r1, r2, r3, r4, r5, r6⟩ := id hfa2
    obtain ⟨ha', hc', s1⟩ := ownsRow_shape r1
    obtain ⟨ta', tc', s2⟩ := ownsRow_shape r3
    obtain ⟨la', lc', s3⟩ := ownsRow_shape r4
    rw [← htl] at s2
    subst s1 s2 s3
    rw [← hfcl, ← hfco] at e9
    subst e9
    obtain ⟨w7, hw7⟩ := nmd ((w6.alloc (.cells #[.slice ha' nf hc', .slice ta' tl tc', .slice la' nf lc', .slice (some ⟨gl', 0, none⟩) nf nf, .int .i64 fcl, .int .i64 fco] 33)).alloc (.cells #[.int .i64 0, .int .i64 0, .int .i64 0] 38))
    obtain ⟨k7, y5, y6⟩ := allocs2 _ _ _ _ _ _ hw7
    have hk67 := hk6.trans k7
    have HF7 := hid_of (HF5.out.same hk67)
    have HG7 : Hid (FcAt w7 nf (.agg #[.slice ha' nf hc', .slice ta' tl tc', .slice la' nf lc', .slice (some ⟨gl', 0, none⟩) nf nf, .int .i64 fcl, .int .i64 fco]) fx) := (fc_of hfa2 HL1.out HL2.out).same k7
    have HFS := hid_of (facts_same _ _ nf fx w7 HFB.out HF7.out HG7.out)
    have HK7 := hid_of (HKW5.out.trans hk67)
    obtain ⟨p0, p1, p2, _⟩ := look3 (box_kept hk67 HX7'.out id)
    obtain ⟨q0, q1, q2, _⟩ := look3 y6
    obtain ⟨a0, a1, a2, a3, a4, a5⟩ := look6k (box_kept hk67 HX5'.out id)
    obtain ⟨b0, b1, b2, b3, b4, b5⟩ := look6k y5
    clear hk6 k7 hk67 y5 y6 HF7 HG7 HF5 HX5' HX7' HRR z0 z1 z2 hrd r1 r2 r3 r4 r5 r6 hfa2 htl hfcl hfco
    go_upto_region 8 with fail
    rw [← hw7]
    clear hw7
    go_wp2_with fail
    refine HFS.out.mono ?_
    rintro e w8 ⟨rfl, hk8⟩
    have HK8 := hid_of (HK7.out.trans hk8)
    clear hk8 HFS p0 p1 p2 q0 q1 q2 a0 a1 a2 a3 a4 a5 b0 b1 b2 b3 b4 b5
    go_wp2_with fail
    refine (head_any w8).mono ?_
    rintro e w9 ⟨rfl, hk9⟩
    have HK9 := hid_of ((HKW.out.trans HK8.out).trans hk9)
    clear hk9
    go_wp2
    go_ret
    exact ⟨rfl, HK9.out⟩
end Go.Proofs.YtcaadgcfceommaaGreat

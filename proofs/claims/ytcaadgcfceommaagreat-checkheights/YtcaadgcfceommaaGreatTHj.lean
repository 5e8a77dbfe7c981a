/-
  THj: Hj.
-/
import Derived.Test.YtcaadgcfceommaaGreatTHi
import Derived.Test.YtcaadgcfceommaaGreatTHf
namespace Go.Proofs.YtcaadgcfceommaaGreat
open Go.RowKit
set_option linter.unusedVariables false
set_option linter.unusedSimpArgs false
set_option maxRecDepth 100000

theorem run_tops {p : PG} {fx : FX} (h : runD p = .ok fx) : ∀ (i : Nat) (f : FN), p.fns[i]? = some f → ∃ hs T, fx.heights[i]? = some hs ∧ fx.tops[i]? = some T ∧ Fit (stepsL p f) f.code.length hs ∧ IsTop (stepsL p f) f.code.length hs T := by
  unfold runD at h
  by_cases hp : (plainD p).1 = 0
  · intro i f hf
    rw [if_neg (by simpa using hp)] at h
    obtain ⟨_, hok⟩ := plain_ok p hp
    cases hb : bodiesD p p.fns 0 with
    | error z => rw [hb] at h; cases h
    | ok bs =>
      rw [hb] at h
      cases h
      obtain ⟨h1, h2⟩ := bodies_ok p p.fns 0 bs hb
      obtain ⟨b, h3, h4⟩ := h2 i f hf
      have hfm := List.mem_of_getElem? hf
      have hss := steps_ok p f (hok f hfm) hok
      refine ⟨b.hs, topP b, ?_, ?_, heights_fit _ _ hss _ (body_heights h4).1, top_is hss h4⟩
      · show (bs.map BD.hs)[i]? = some b.hs
        rw [List.getElem?_map, h3]
        rfl
      · show (bs.map topP)[i]? = some (topP b)
        rw [List.getElem?_map, h3]
        rfl
  · rw [if_pos hp] at h
    cases h
theorem FactsAt.tops {w : World} {B nf : Nat} {v : Value} {fx : FX} (h : FactsAt w B nf v fx) (hn : fx.tops.length = nf) : ∃ hao hc tao tc lao lc gl HV, v = .agg #[.slice hao nf hc, .slice tao nf tc, .slice lao nf lc, .slice (some ⟨gl, 0, none⟩) nf nf, .int .i64 fx.cells, .int .i64 fx.cost] ∧ w.ownsRow B 30 1 (.slice hao nf hc) nf HV ∧ (∀ (i : Nat) (l : List Int), fx.heights[i]? = some l → ∃ u, HV[i]? = some u ∧ OwnN w 0 u l) ∧ OwnN w B (.slice tao nf tc) fx.tops := by
  obtain ⟨hvv, tvv, lvv, gl, HV, LV, e, h1, h2, h3, h4, h5, h6⟩ := h
  obtain ⟨a1, c1, rfl⟩ := ownsRow_shape h1
  obtain ⟨a2, c2, rfl⟩ := ownsRow_shape h3
  obtain ⟨a3, c3, rfl⟩ := ownsRow_shape h4
  rw [hn] at e h3
  exact ⟨a1, c1, a2, c2, a3, c3, gl, HV, e, h1, h2, by rw [← hn] at h3 ⊢; exact h3⟩
theorem run_len {p : PG} {fx : FX} (h : runD p = .ok fx) : fx.tops.length = p.fns.length := by
  unfold runD at h
  by_cases hp : (plainD p).1 = 0
  · rw [if_neg (by simpa using hp)] at h
    cases hb : bodiesD p p.fns 0 with
    | error z => rw [hb] at h; cases h
    | ok bs =>
      rw [hb] at h
      cases h
      show (bs.map topP).length = _
      rw [List.length_map]
      exact (bodies_ok p p.fns 0 bs hb).1
  · rw [if_pos hp] at h
    cases h
set_option maxHeartbeats 16000000 in
theorem heights_walk (v : Value) (p : PG) (w : World) (B : Nat) (h : PgIs w B v p) (hB : B ≤ w.heap.size) (ho : p.Ok) :
    Calls Tryz.prog 5 #[v] w fun e w' => e = .returned (.bool true) ∧ Kept (fun _ => False) w w' := by
  have hpg := h
  obtain ⟨dv, fv, rfl, hd, hdl, hf⟩ := h
  obtain ⟨dao, dc, rfl⟩ := hd.shape
  obtain ⟨fao, fc, rfl⟩ := hf.shape
  obtain ⟨nf, hnf⟩ : ∃ n, n = p.fns.length := ⟨_, rfl⟩
  obtain ⟨nd, hnd⟩ : ∃ n, n = p.data.length := ⟨_, rfl⟩
  obtain ⟨mem, hmem⟩ : ∃ n, n = p.mem := ⟨_, rfl⟩
  rw [← hnf, ← hnd, ← hmem] at hpg ⊢
  have hlf := ho.len
  rw [← hnf] at hlf
  have hnfI : (nf : Int) ≤ 140737488351232 := by omega
  obtain ⟨gb, hgb⟩ : ∃ g, g = w.heap.size := ⟨_, rfl⟩
  obtain ⟨W, hW⟩ : ∃ W, W = w.alloc (.cells #[.int .i64 mem, .slice dao nd dc, .slice fao nf fc] 25) := ⟨_, rfl⟩
  have k1 : Kept (fun _ => False) w W := by rw [hW]; exact (Kept.refl _ _).alloc _
  have x1 : W.heap[gb]? = some (.cells #[.int .i64 mem, .slice dao nd dc, .slice fao nf fc] 25 (0, 0)) := by rw [hW, hgb]; exact heap_alloc_new w _
  have HKW := hid_of k1
  have HB1 := hid_of x1
  have HPG := hid_of (hpg.kept k1 (fun _ _ f => f))
  have HBW : Hid (B ≤ W.heap.size) := Nat.le_trans hB k1.size
  have HO := hid_of ho
  have HNF := hid_of hnf
  have HAL := hid_of (all_any _ p W B HPG.out ho)
  have c0 := cell_block _ _ 0 _ _ _ x1
  have c1 := cell_block _ _ 1 _ _ _ x1
  have c2 := cell_block _ _ 2 _ _ _ x1
  clear x1 k1 hd hdl hf hnf hnd hmem hpg ho hB hlf
  go_enter Tryz.func5, Tryz.ntmps5
  go_upto_region 1 with fail
  rw [← hW, ← hgb]
  clear hW hgb
  go_wp2_with fail
  refine HAL.out.mono ?_
  rintro e w1 ⟨⟨na, rfl⟩, hk1⟩
  have HK1 := hid_of hk1
  clear hk1 HAL c0 c1 c2
  by_cases hna : 4000 < na
  · go_wp2_with fail
    refine (head_any w1).mono ?_
    rintro e w9 ⟨rfl, hk9⟩
    have HK9 := hid_of ((HKW.out.trans HK1.out).trans hk9)
    clear hk9
    go_wp2
    go_ret
    exact ⟨rfl, HK9.out⟩
  · have hnb : decide (4000 < na) = false := by simp; omega
    have hRN := run_any _ p w1 B (HPG.out.kept HK1.out (fun _ _ f => f)) (Nat.le_trans HBW.out HK1.out.size) HO.out
    rw [← HNF.out] at hRN
    have HRN := hid_of hRN
    have hb1 := box_kept HK1.out HB1.out (fun f => f)
    have c0 := cell_block _ _ 0 _ _ _ hb1
    have c1 := cell_block _ _ 1 _ _ _ hb1
    have c2 := cell_block _ _ 2 _ _ _ hb1
    clear hRN hb1
    go_wp2_with fail
    refine HRN.out.mono ?_
    rintro e w2 ⟨hk2, hm⟩
    have HK2 := hid_of (HK1.out.trans hk2)
    clear hk2 HRN c0 c1 c2 hnb hna HK1
    cases hrd : runD p with
    | error z =>
      obtain ⟨y, fi, fx⟩ := z
      rw [hrd] at hm
      obtain ⟨hy, rfl⟩ := hm
      have hyb : (y != 0) = true := by simpa using hy
      clear hrd
      obtain ⟨w3, hw3⟩ : ∃ W, W = (w2.alloc (.cells #[.slice none 0 0, .slice none 0 0, .slice none 0 0, .slice none 0 0, .int .i64 0, .int .i64 0] 33)).alloc (.cells #[.int .i64 y, .int .i64 fi, .int .i64 fx] 38) := ⟨_, rfl⟩
      obtain ⟨k3, x5, x6⟩ := allocs2 _ _ _ _ _ _ hw3
      have HK3 := hid_of (HK2.out.trans k3)
      have f0 := cell_block _ _ 0 _ _ _ x6
      have q0 := cell_block _ _ 0 _ _ _ x5
      have q1 := cell_block _ _ 1 _ _ _ x5
      have q2 := cell_block _ _ 2 _ _ _ x5
      have q3 := cell_block _ _ 3 _ _ _ x5
      have q4 := cell_block _ _ 4 _ _ _ x5
      have q5 := cell_block _ _ 5 _ _ _ x5
      clear k3 x5 x6 HK2
      go_upto_region 4 with fail
      rw [← hw3]
      clear hw3
      obtain ⟨g5, hg5⟩ : ∃ g, g = w2.heap.size := ⟨_, rfl⟩
      rw [← hg5] at f0 q0 q1 q2 q3 q4 q5 ⊢
      clear hg5
      go_wp2_with fail
      refine (head_any w3).mono ?_
      rintro e w9 ⟨rfl, hk9⟩
      have HK9 := hid_of ((HKW.out.trans HK3.out).trans hk9)
      clear hk9
      go_wp2
      go_ret
      exact ⟨rfl, HK9.out⟩
    | ok fx =>
      rw [hrd] at hm
      obtain ⟨fv, rfl, hfa⟩ := hm
      have hpl := (run_fits hrd).1
      have htops := run_tops hrd
      have htl := run_len hrd
      rw [← HNF.out] at htl
      obtain ⟨hao, hc, tao, tc, lao, lc, gl, HV, rfl, _, _, _⟩ := hfa.tops htl
      obtain ⟨fce, hfce⟩ : ∃ z, z = fx.cells := ⟨_, rfl⟩
      obtain ⟨fco, hfco⟩ : ∃ z, z = fx.cost := ⟨_, rfl⟩
      rw [← hfce, ← hfco] at hfa ⊢
      obtain ⟨hn64, hfok⟩ := plain_ok p hpl
      have HPO := hid_of hfok
      have HTO := hid_of htops
      have HTL := hid_of htl
      clear hrd htops htl hfok hfce hfco hpl
      obtain ⟨w3, hw3⟩ : ∃ W, W = (w2.alloc (.cells #[.slice hao nf hc, .slice tao nf tc, .slice lao nf lc, .slice (some ⟨gl, 0, none⟩) nf nf, .int .i64 fce, .int .i64 fco] 33)).alloc (.cells #[.int .i64 0, .int .i64 0, .int .i64 0] 38) := ⟨_, rfl⟩
      obtain ⟨k3, x5, x6⟩ := allocs2 _ _ _ _ _ _ hw3
      have HK3 := hid_of (HK2.out.trans k3)
      have HX5 := hid_of x5
      have HFA := hid_of (hfa.same k3)
      have f0 := cell_block _ _ 0 _ _ _ x6
      have q0 := cell_block _ _ 0 _ _ _ x5
      have q1 := cell_block _ _ 1 _ _ _ x5
      have hb1 := box_kept HK3.out HB1.out (fun f => f)
      have c2 := cell_block _ _ 2 _ _ _ hb1
      clear k3 x5 x6 hb1 HK2 hfa
      go_upto_region 4 with fail
      rw [← hw3]
      clear hw3
      obtain ⟨g5, hg5⟩ : ∃ g, g = w2.heap.size := ⟨_, rfl⟩
      rw [← hg5] at HX5 f0 q0 q1 ⊢
      clear hg5
      go_wp2_with fail
      clear f0 q0 q1 c2
      obtain ⟨BF, hBF⟩ : ∃ g, g = w1.heap.size := ⟨_, rfl⟩
      rw [← hBF] at HFA
      clear hBF
      go_loopw [5] (fun kv wr => ∃ (k : Nat), k ≤ nf ∧ kv = .int .i64 (k : Int) ∧ Hid (Kept (fun _ => False) W wr) ∧ Hid (wr.heap[g5]? = some (.cells #[.slice hao nf hc, .slice tao nf tc, .slice lao nf lc, .slice (some ⟨gl, 0, none⟩) nf nf, .int .i64 fce, .int .i64 fco] 33 (0, 0))) ∧ Hid (FactsAt wr BF nf (.agg #[.slice hao nf hc, .slice tao nf tc, .slice lao nf lc, .slice (some ⟨gl, 0, none⟩) nf nf, .int .i64 fce, .int .i64 fco]) fx)) (fun kv _ => nf - (intOf kv).toNat)
      case atStart => exact ⟨0, by omega, rfl, HK3, HX5, HFA⟩
      case round =>
        clear HK3 HX5 HFA
        obtain ⟨k, hk, rfl, HKR, HX8, HFB⟩ := hrel
        have hb1 := box_kept HKR.out HB1.out (fun f => f)
        have HBX := hid_of hb1
        have c2 := cell_block _ _ 2 _ _ _ hb1
        clear hb1
        by_cases hlt : k < nf
        · have hltI : (k : Int) < (nf : Int) := by omega
          obtain ⟨f, hfk⟩ : ∃ f, p.fns[k]? = some f := ⟨_, List.getElem?_eq_getElem (by rw [← HNF.out]; exact hlt)⟩
          obtain ⟨hs, T, hh0, ht0, hft, htp⟩ := HTO.out k f hfk
          obtain ⟨hao', hc', tao', tc', lao', lc', gl', HV', ev, hrow, hht, htt⟩ := HFB.out.tops HTL.out
          simp only [Value.agg.injEq, Array.mk.injEq, List.cons.injEq, Value.slice.injEq, and_true, true_and] at ev
          obtain ⟨⟨rfl, rfl⟩, ⟨rfl, rfl⟩, hrest⟩ := ev
          clear hrest
          obtain ⟨hu0, huV, huO⟩ := hht k hs hh0
          obtain ⟨hg, hgc, e9⟩ := own_at9 hrow (by omega)
          simp only [Value.slice.injEq] at e9
          obtain ⟨rfl, _, rfl⟩ := e9
          obtain ⟨tg, tgc, e8, _⟩ := own_look htt (show 0 < fx.tops.length by rw [HTL.out]; omega)
          rw [HTL.out] at e8
          simp only [Value.slice.injEq] at e8
          obtain ⟨rfl, _, rfl⟩ := e8
          have HT0 : Hid (wr.cell? ⟨hg, k, none⟩ = some hu0) := by unfold Hid; rw [hrow.cellAt _ (by omega)]; exact huV
          have HT1 : Hid (wr.cell? ⟨tg, k, none⟩ = some (.int .i64 T)) := by
            unfold Hid
            rw [own_int htt HTL.out hlt]
            simp [List.getD, ht0]
          have HAG := hid_of (fun W' (hW' : Kept (fun _ => False) wr W') => agrees_any _ p W' B (HPG.out.kept (HKR.out.trans hW') (fun _ _ f => f)) (Nat.le_trans HBW.out (HKR.out.trans hW').size) HO.out HPO.out k f hfk hu0 hs T (hW'.ownsRow huO (fun _ _ f => f)) hft htp)
          obtain ⟨hua, huc, e2⟩ := ownsRow_shape huO
          obtain ⟨hl, hhl⟩ : ∃ z, z = hs.length := ⟨_, rfl⟩
          rw [← hhl] at e2
          subst e2
          have HSX : Hid (∀ w', Kept (fun _ => False) wr w' → (w'.cell? ⟨gb, 0, none⟩ = some (.int .i64 mem) ∧ w'.cell? ⟨gb, 1, none⟩ = some (.slice dao nd dc) ∧ w'.cell? ⟨gb, 2, none⟩ = some (.slice fao nf fc)) ∧ w'.cell? ⟨g5, 0, none⟩ = some (.slice (some ⟨hg, 0, none⟩) nf hc) ∧ w'.cell? ⟨g5, 1, none⟩ = some (.slice (some ⟨tg, 0, none⟩) nf tc) ∧ w'.cell? ⟨hg, k, none⟩ = some (.slice hua hl huc) ∧ w'.cell? ⟨tg, k, none⟩ = some (.int .i64 T)) := fun w' hw => ⟨⟨hw.cell (cell_block _ _ 0 _ _ _ HBX.out) (fun f => f), hw.cell (cell_block _ _ 1 _ _ _ HBX.out) (fun f => f), hw.cell (cell_block _ _ 2 _ _ _ HBX.out) (fun f => f)⟩, hw.cell (cell_block _ _ 0 _ _ _ HX8.out) (fun f => f), hw.cell (cell_block _ _ 1 _ _ _ HX8.out) (fun f => f), hw.cell HT0.out (fun f => f), hw.cell HT1.out (fun f => f)⟩
          clear hrow hht htt huV huO hhl hh0 ht0 hft htp hfk HT0 HT1
          go_upto_region 11 with fail
          clear c2
          refine wp_region_held_drew (S := fun w' => Kept (fun _ => False) wr w') (by kernel_rfl) ((Kept.refl _ _).drew) (fun hHeld => ?_)
          iterate 12
            refine tkn (v := ?_) 0 rfl ?_ ?_; rotate_left 1
            · intro w hSw; obtain ⟨⟨a0, a1, a2⟩, b0, b1, d0, d1⟩ := HSX.out w hSw; go_simp; try with_reducible rfl
            try simp only [Act.put, tdy]
          refine wpAnyH_ready (rs := [12]) (by kernel_rfl) (by simp) ?_
          refine AllReadyH.cons rfl (fun K hK => ?_) AllReadyH.nil
          go_simp
          refine (HAG.out _ hHeld).mono ?_
          rintro e w5 ⟨rfl, hk5⟩
          have hkk := hHeld.trans hk5
          refine hK.out _ _ hkk (fun hHeld => ?_)
          clear hK K
          try simp only [Act.put, tdy]
          iterate 1
            refine tkn (v := ?_) 13 rfl ?_ ?_; rotate_left 1
            · intro w hSw; obtain ⟨⟨a0, a1, a2⟩, b0, b1, d0, d1⟩ := HSX.out w hSw; go_simp; try with_reducible rfl
            try simp only [Act.put, tdy]
          refine wpAnyH_done (by kernel_rfl) ?_ _
          have HK5 := hid_of (HKR.out.trans hkk)
          have HX9 := hid_of (box_kept hkk HX8.out (fun f => f))
          have HFC := hid_of (HFB.out.same hkk)
          clear hkk hk5 hHeld HAG HSX HKR HX8 HFB HBX
          go_wp2
          go_roundw
          case rel => exact ⟨k + 1, by omega, by go_num, HK5, HX9, HFC⟩
          case measure => simp [intOf]; omega
        · have hltI : ¬ ((k : Int) < (nf : Int)) := by omega
          go_wp2_with fail
          refine (head_any wr).mono ?_
          rintro e w9 ⟨rfl, hk9⟩
          have HK9 := hid_of ((HKW.out.trans HKR.out).trans hk9)
          clear hk9
          go_wp2
          go_ret
          exact ⟨rfl, HK9.out⟩
end Go.Proofs.YtcaadgcfceommaaGreat

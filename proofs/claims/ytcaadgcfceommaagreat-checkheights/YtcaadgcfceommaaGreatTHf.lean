/-
  THf: Hf.
-/
import Derived.Test.YtcaadgcfceommaaGreatTHe
import Derived.Test.YtcaadgcfceommaaGreatTLl
import Derived.Test.YtcaadgcfceommaaGreatTLc
namespace Go.Proofs.YtcaadgcfceommaaGreat
open Go.RowKit
set_option linter.unusedVariables false
set_option linter.unusedSimpArgs false
set_option maxRecDepth 100000

theorem bodies_ok (p : PG) : ∀ (fs : List FN) (i : Nat) (bs : List BD), bodiesD p fs i = .ok bs → bs.length = fs.length ∧ ∀ (j : Nat) (f : FN), fs[j]? = some f → ∃ b, bs[j]? = some b ∧ bodyD (stepsL p f) f.code.length = .ok b
  | [], i, bs, h => by
    simp only [bodiesD, Except.ok.injEq] at h
    subst h
    exact ⟨rfl, fun j f hf => by simp at hf⟩
  | g :: fs, i, bs, h => by
    rw [bodiesD] at h
    cases hb : bodyD (stepsL p g) g.code.length with
    | error z => obtain ⟨x, y⟩ := z; rw [hb] at h; cases h
    | ok b =>
      rw [hb] at h
      simp only at h
      cases hr : bodiesD p fs (i + 1) with
      | error z => rw [hr] at h; cases h
      | ok l =>
        rw [hr] at h
        cases h
        obtain ⟨h1, h2⟩ := bodies_ok p fs (i + 1) l hr
        refine ⟨by simp [h1], fun j f hf => ?_⟩
        cases j with
        | zero =>
          have e : g = f := by simpa using hf
          subst e
          exact ⟨b, by simp, hb⟩
        | succ j =>
          obtain ⟨b', h3, h4⟩ := h2 j f (by simpa using hf)
          exact ⟨b', by simpa using h3, h4⟩
theorem bodies_all (p : PG) : ∀ (fs : List FN) (i : Nat), (∀ f ∈ fs, ∃ b, bodyD (stepsL p f) f.code.length = .ok b) → ∃ bs, bodiesD p fs i = .ok bs
  | [], i, _ => ⟨[], rfl⟩
  | g :: fs, i, h => by
    obtain ⟨b, hb⟩ := h g (by simp)
    obtain ⟨l, hl⟩ := bodies_all p fs (i + 1) (fun f hf => h f (by simp [hf]))
    exact ⟨b :: l, by rw [bodiesD, hb]; simp only; rw [hl]⟩
theorem body_heights {ss : List ST} {n : Nat} {b : BD} (h : bodyD ss n = .ok b) : heightsD ss n = .ok b.hs ∧ b.ss = ss := by
  unfold bodyD at h
  cases hh : heightsD ss n with
  | error z => rw [hh] at h; cases h
  | ok hs => rw [hh] at h; cases h; exact ⟨rfl, rfl⟩
theorem run_fits {p : PG} {fx : FX} (h : runD p = .ok fx) : (plainD p).1 = 0 ∧ ∀ (i : Nat) (f : FN), p.fns[i]? = some f → ∃ hs, fx.heights[i]? = some hs ∧ Fit (stepsL p f) f.code.length hs := by
  unfold runD at h
  by_cases hp : (plainD p).1 = 0
  · refine ⟨hp, fun i f hf => ?_⟩
    rw [if_neg (by simpa using hp)] at h
    obtain ⟨_, hok⟩ := plain_ok p hp
    cases hb : bodiesD p p.fns 0 with
    | error z => rw [hb] at h; cases h
    | ok bs =>
      rw [hb] at h
      cases h
      obtain ⟨h1, h2⟩ := bodies_ok p p.fns 0 bs hb
      obtain ⟨b, h3, h4⟩ := h2 i f hf
      have hfm := List.mem_of_getElem? hf
      refine ⟨b.hs, ?_, heights_fit _ _ (steps_ok p f (hok f hfm) hok) _ (body_heights h4).1⟩
      show (bs.map BD.hs)[i]? = some b.hs
      rw [List.getElem?_map, h3]
      rfl
  · rw [if_pos hp] at h
    cases h
theorem fits_run {p : PG} (hp : (plainD p).1 = 0) (h : ∀ f ∈ p.fns, ∃ H, Fit (stepsL p f) f.code.length H) : ∃ fx, runD p = .ok fx := by
  obtain ⟨_, hok⟩ := plain_ok p hp
  obtain ⟨bs, hb⟩ := bodies_all p p.fns 0 (fun f hf => by
    obtain ⟨H, hH⟩ := h f hf
    have h1 := fit_heights _ _ (steps_ok p f (hok f hf) hok) H hH
    exact ⟨_, by unfold bodyD; rw [h1]⟩)
  exact ⟨factsP p bs, by unfold runD; rw [if_neg (by simpa using hp), hb]⟩
theorem own_at9 {w : World} {b e s n : Nat} {v : Value} {xs : List Value} (h : w.ownsRow b e s v n xs) (hn : 0 < n) : ∃ g c, v = .slice (some ⟨g, 0, none⟩) n c := by
  rcases World.ownsRow.mk' h with ⟨_, e⟩ | ⟨g, cap, e⟩
  · omega
  · exact ⟨g, cap, e⟩
theorem FactsAt.same {w w' : World} {B nf : Nat} {v : Value} {fx : FX} (h : FactsAt w B nf v fx) (hk : Kept (fun _ => False) w w') : FactsAt w' B nf v fx := h.over hk (fun q f => f.elim) (Nat.le_refl _)
theorem FactsAt.heights {w : World} {B nf : Nat} {v : Value} {fx : FX} (h : FactsAt w B nf v fx) : ∃ hao hc tao tc nt lao lc nl gl HV, v = .agg #[.slice hao nf hc, .slice tao nt tc, .slice lao nl lc, .slice (some ⟨gl, 0, none⟩) nf nf, .int .i64 fx.cells, .int .i64 fx.cost] ∧ w.ownsRow B 30 1 (.slice hao nf hc) nf HV ∧ ∀ (i : Nat) (l : List Int), fx.heights[i]? = some l → ∃ u, HV[i]? = some u ∧ OwnN w 0 u l := by
  obtain ⟨hvv, tvv, lvv, gl, HV, LV, e, h1, h2, h3, h4, h5, h6⟩ := h
  obtain ⟨a1, c1, rfl⟩ := ownsRow_shape h1
  obtain ⟨a2, c2, rfl⟩ := ownsRow_shape h3
  obtain ⟨a3, c3, rfl⟩ := ownsRow_shape h4
  exact ⟨a1, c1, a2, c2, _, a3, c3, _, gl, HV, e, h1, h2⟩
set_option maxHeartbeats 16000000 in
theorem anyway_walk (v u : Value) (p : PG) (ns : List Int) (w : World) (B : Nat) (h : PgIs w B v p) (hB : B ≤ w.heap.size) (ho : p.Ok) (hu : RowN w u ns) (hnr : ∀ x ∈ ns, -9223372036854775808 ≤ x ∧ x < 9223372036854775808) (hnl : ns.length ≤ 17592186043904) :
    Calls Tryz.prog 6 #[v, u] w fun e w' => e = .returned (.bool true) ∧ Kept (fun _ => False) w w' := by
  have hpg := h
  obtain ⟨dv, fv, rfl, hd, hdl, hf⟩ := h
  obtain ⟨dao, dc, rfl⟩ := hd.shape
  obtain ⟨fao, fc, rfl⟩ := hf.shape
  obtain ⟨pao, pc, rfl⟩ := hu.shape
  obtain ⟨nf, hnf⟩ : ∃ n, n = p.fns.length := ⟨_, rfl⟩
  obtain ⟨nd, hnd⟩ : ∃ n, n = p.data.length := ⟨_, rfl⟩
  obtain ⟨mem, hmem⟩ : ∃ n, n = p.mem := ⟨_, rfl⟩
  obtain ⟨np, hnp⟩ : ∃ n, n = ns.length := ⟨_, rfl⟩
  rw [← hnf, ← hnd, ← hmem] at hpg ⊢
  rw [← hnp] at hu ⊢
  have hlf := ho.len
  rw [← hnf] at hlf
  have hnfI : (nf : Int) ≤ 140737488351232 := by omega
  obtain ⟨gb, hgb⟩ : ∃ g, g = w.heap.size := ⟨_, rfl⟩
  obtain ⟨W, hW⟩ : ∃ W, W = w.alloc (.cells #[.int .i64 mem, .slice dao nd dc, .slice fao nf fc] 25) := ⟨_, rfl⟩
  have k1 : Kept (fun _ => False) w W := by rw [hW]; exact (Kept.refl _ _).alloc _
  have x1 : W.heap[gb]? = some (.cells #[.int .i64 mem, .slice dao nd dc, .slice fao nf fc] 25 (0, 0)) := by rw [hW, hgb]; exact heap_alloc_new w _
  have HKW := hid_of k1
  have HB1 := hid_of x1
  have HPG := hid_of (hpg.kept k1 (fun _ _ f => f))
  have HBW : Hid (B ≤ W.heap.size) := Nat.le_trans hB k1.size
  have HO := hid_of ho
  have HNF := hid_of hnf
  have HU := hid_of (hu.same k1)
  have HNR := hid_of hnr
  have HNL := hid_of hnl
  have HAL := hid_of (all_any _ p W B HPG.out ho)
  have c0 := cell_block _ _ 0 _ _ _ x1
  have c1 := cell_block _ _ 1 _ _ _ x1
  have c2 := cell_block _ _ 2 _ _ _ x1
  clear x1 k1 hd hdl hf hnf hnd hmem hpg ho hB hu hnp hlf hnr hnl
  go_enter Tryz.func6, Tryz.ntmps6
  go_upto_region 1 with fail
  rw [← hW, ← hgb]
  clear hW hgb
  go_wp2_with fail
  refine HAL.out.mono ?_
  rintro e w1 ⟨⟨na, rfl⟩, hk1⟩
  have HK1 := hid_of hk1
  clear hk1 HAL c0 c1 c2
  by_cases hna : 4000 < na
  · go_wp2_with fail
    refine (head_any w1).mono ?_
    rintro e w9 ⟨rfl, hk9⟩
    have HK9 := hid_of ((HKW.out.trans HK1.out).trans hk9)
    clear hk9
    go_wp2
    go_ret
    exact ⟨rfl, HK9.out⟩
  · have hnb : decide (4000 < na) = false := by simp; omega
    have hRN := run_any _ p w1 B (HPG.out.kept HK1.out (fun _ _ f => f)) (Nat.le_trans HBW.out HK1.out.size) HO.out
    rw [← HNF.out] at hRN
    have HRN := hid_of hRN
    have hb1 := box_kept HK1.out HB1.out (fun f => f)
    have c0 := cell_block _ _ 0 _ _ _ hb1
    have c1 := cell_block _ _ 1 _ _ _ hb1
    have c2 := cell_block _ _ 2 _ _ _ hb1
    clear hRN hb1
    go_wp2_with fail
    refine HRN.out.mono ?_
    rintro e w2 ⟨hk2, hm⟩
    have HK2 := hid_of (HK1.out.trans hk2)
    clear hk2 HRN c0 c1 c2 hnb hna HK1
    cases hrd : runD p with
    | error z =>
      obtain ⟨y, fi, fx⟩ := z
      rw [hrd] at hm
      obtain ⟨hy, rfl⟩ := hm
      have hyb : (y != 0) = true := by simpa using hy
      have hyb2 : (y == 0) = false := by simpa using hy
      have HRD := hid_of hrd
      clear hrd
      obtain ⟨w3, hw3⟩ : ∃ W, W = (w2.alloc (.cells #[.slice none 0 0, .slice none 0 0, .slice none 0 0, .slice none 0 0, .int .i64 0, .int .i64 0] 33)).alloc (.cells #[.int .i64 y, .int .i64 fi, .int .i64 fx] 38) := ⟨_, rfl⟩
      obtain ⟨k3, x5, x6⟩ := allocs2 _ _ _ _ _ _ hw3
      have HK3 := hid_of (HK2.out.trans k3)
      have HX6 := hid_of x6
      have HSH := hid_of (shaped_any _ p w3 B (HPG.out.kept HK3.out (fun _ _ f => f)) (Nat.le_trans HBW.out HK3.out.size) HO.out)
      have hb1 := box_kept HK3.out HB1.out (fun f => f)
      have c0 := cell_block _ _ 0 _ _ _ hb1
      have c1 := cell_block _ _ 1 _ _ _ hb1
      have c2 := cell_block _ _ 2 _ _ _ hb1
      clear k3 x5 x6 hb1 HK2
      go_upto_region 4 with fail
      rw [← hw3]
      clear hw3
      generalize w2.heap.size + 1 = g6 at *
      go_wp2_with fail
      refine HSH.out.mono ?_
      rintro e w4 ⟨rfl, hk4⟩
      have HK4 := hid_of (HK3.out.trans hk4)
      have HX7 := hid_of (box_kept hk4 HX6.out (fun f => f))
      clear hk4 HSH HK3 HX6 c0 c1 c2
      by_cases hsh : (plainD p).1 = 0
      · have hsb : decide ((plainD p).1 = 0) = true := decide_eq_true hsh
        obtain ⟨hn64, hfok⟩ := plain_ok p hsh
        have HPO := hid_of hfok
        have HPL := hid_of hsh
        rw [hsb]
        clear hsb hsh hfok
        go_wp2_with fail
        go_loopw [7, 8] (fun okv kv wr => ∃ (k : Nat) (b : Bool), k ≤ nf ∧ kv = .int .i64 (k : Int) ∧ okv = .bool b ∧ Hid (Kept (fun _ => False) W wr) ∧ Hid (b = true → ∀ (i : Nat) (f : FN), i < k → p.fns[i]? = some f → ∃ H, Fit (stepsL p f) f.code.length H) ∧ Hid (wr.heap[g6]? = some (.cells #[.int .i64 y, .int .i64 fi, .int .i64 fx] 38 (0, 0)))) (fun _ kv _ => nf - (intOf kv).toNat)
        case atStart => exact ⟨0, true, by omega, rfl, rfl, HK4, fun _ i f hi => absurd hi (by omega), HX7⟩
        case round =>
          clear HK4 HX7
          obtain ⟨k, b, hk, rfl, rfl, HKR, HAF, HX7⟩ := hrel
          by_cases hlt : k < nf
          · have hltI : (k : Int) < (nf : Int) := by omega
            obtain ⟨f, hfk⟩ : ∃ f, p.fns[k]? = some f := ⟨_, List.getElem?_eq_getElem (by rw [← HNF.out]; exact hlt)⟩
            have HTR := hid_of (tried_any _ _ p ns wr B (HPG.out.kept HKR.out (fun _ _ f => f)) (Nat.le_trans HBW.out HKR.out.size) HO.out (HU.out.same HKR.out) HNR.out HNL.out HPO.out k f hfk)
            have HFK := hid_of hfk
            have hb1 := box_kept HKR.out HB1.out (fun f => f)
            have c0 := cell_block _ _ 0 _ _ _ hb1
            have c1 := cell_block _ _ 1 _ _ _ hb1
            have c2 := cell_block _ _ 2 _ _ _ hb1
            clear hb1 hfk
            go_wp2_with fail
            refine HTR.out.mono ?_
            rintro e w5 ⟨hk5, hor⟩
            have HK5 := hid_of (HKR.out.trans hk5)
            have HX8 := hid_of (box_kept hk5 HX7.out (fun f => f))
            have f0 := cell_block _ _ 0 _ _ _ HX8.out
            clear hk5 HTR c0 c1 c2 HKR HX7
            rcases hor with ⟨hv, hs, rfl, hown, hfit⟩ | ⟨rfl, hno⟩
            · have HN : ∀ b0 : Bool, b0 = b → Hid (b0 = true → ∀ (i : Nat) (f : FN), i < k + 1 → p.fns[i]? = some f → ∃ H, Fit (stepsL p f) f.code.length H) := fun b0 e0 hb i g hi hg => by
                subst e0
                by_cases e : i = k
                · subst e
                  rw [HFK.out] at hg
                  cases hg
                  exact ⟨hs, hfit⟩
                · exact HAF.out hb i g (by omega) hg
              have HN2 := HN b rfl
              clear hown hfit HN HAF
              cases b with
              | true =>
                go_wp2
                go_roundw
                case rel => exact ⟨k + 1, true, by omega, by go_num, rfl, HK5, (fun _ => HN2.out trivial), HX8⟩
                case measure => simp [intOf]; omega
              | false =>
                go_wp2
                go_roundw
                case rel => exact ⟨k + 1, false, by omega, by go_num, rfl, HK5, HN2, HX8⟩
                case measure => simp [intOf]; omega
            · clear HAF
              cases b with
              | true =>
                go_wp2
                go_roundw
                case rel => exact ⟨k + 1, false, by omega, by go_num, rfl, HK5, (fun h => by cases h), HX8⟩
                case measure => simp [intOf]; omega
              | false =>
                go_wp2
                go_roundw
                case rel => exact ⟨k + 1, false, by omega, by go_num, rfl, HK5, (fun h => by cases h), HX8⟩
                case measure => simp [intOf]; omega
          · have hltI : ¬ ((k : Int) < (nf : Int)) := by omega
            have hbf : b = false := bool_no (fun hb => by
              obtain ⟨fx9, h9⟩ := fits_run HPL.out (fun f hf => by
                obtain ⟨i, hi, e⟩ := List.mem_iff_getElem.1 hf
                exact HAF.out hb i f (by have := HNF.out; omega) (by rw [List.getElem?_eq_getElem hi, e]))
              rw [HRD.out] at h9
              cases h9)
            subst hbf
            have hb1 := box_kept HKR.out HB1.out (fun f => f)
            have c2 := cell_block _ _ 2 _ _ _ hb1
            have f0 := cell_block _ _ 0 _ _ _ HX7.out
            clear HAF hb1
            go_wp2_with fail
            refine (head_any wr).mono ?_
            rintro e w9 ⟨rfl, hk9⟩
            have HK9 := hid_of ((HKW.out.trans HKR.out).trans hk9)
            clear hk9
            go_wp2
            go_ret
            exact ⟨rfl, HK9.out⟩
      · have hsb : decide ((plainD p).1 = 0) = false := decide_eq_false hsh
        rw [hsb]
        have f0 := cell_block _ _ 0 _ _ _ HX7.out
        clear hsb
        go_wp2_with fail
        refine (head_any w4).mono ?_
        rintro e w9 ⟨rfl, hk9⟩
        have HK9 := hid_of ((HKW.out.trans HK4.out).trans hk9)
        clear hk9
        go_wp2
        go_ret
        exact ⟨rfl, HK9.out⟩
    | ok fx =>
      rw [hrd] at hm
      obtain ⟨fv, rfl, hfa⟩ := hm
      obtain ⟨hpl, hfit⟩ := run_fits hrd
      obtain ⟨hao, hc, tao, tc, nt, lao, lc, nl, gl, HV, rfl, _, _⟩ := hfa.heights
      obtain ⟨fce, hfce⟩ : ∃ z, z = fx.cells := ⟨_, rfl⟩
      obtain ⟨fco, hfco⟩ : ∃ z, z = fx.cost := ⟨_, rfl⟩
      rw [← hfce, ← hfco] at hfa ⊢
      obtain ⟨hn64, hfok⟩ := plain_ok p hpl
      have HPO := hid_of hfok
      have HFIT := hid_of hfit
      have HPL : Hid (decide ((plainD p).1 = 0) = true) := decide_eq_true hpl
      clear hrd hfit hfok hfce hfco hpl
      obtain ⟨w3, hw3⟩ : ∃ W, W = (w2.alloc (.cells #[.slice hao nf hc, .slice tao nt tc, .slice lao nl lc, .slice (some ⟨gl, 0, none⟩) nf nf, .int .i64 fce, .int .i64 fco] 33)).alloc (.cells #[.int .i64 0, .int .i64 0, .int .i64 0] 38) := ⟨_, rfl⟩
      obtain ⟨k3, x5, x6⟩ := allocs2 _ _ _ _ _ _ hw3
      have HK3 := hid_of (HK2.out.trans k3)
      have HX5 := hid_of x5
      have HX6 := hid_of x6
      have HFA := hid_of (hfa.same k3)
      have hsh := shaped_any _ p w3 B (HPG.out.kept HK3.out (fun _ _ f => f)) (Nat.le_trans HBW.out HK3.out.size) HO.out
      rw [HPL.out] at hsh
      have HSH := hid_of hsh
      have hb1 := box_kept HK3.out HB1.out (fun f => f)
      have c0 := cell_block _ _ 0 _ _ _ hb1
      have c1 := cell_block _ _ 1 _ _ _ hb1
      have c2 := cell_block _ _ 2 _ _ _ hb1
      clear k3 x5 x6 hb1 HK2 hsh hfa
      go_upto_region 4 with fail
      rw [← hw3]
      clear hw3
      obtain ⟨g5, hg5⟩ : ∃ g, g = w2.heap.size := ⟨_, rfl⟩
      rw [← hg5] at HX5 HX6 ⊢
      clear hg5
      obtain ⟨g6, hg6⟩ : ∃ g, g = g5 + 1 := ⟨_, rfl⟩
      rw [← hg6] at HX6 ⊢
      clear hg6
      go_wp2_with fail
      refine HSH.out.mono ?_
      rintro e w4 ⟨rfl, hk4⟩
      have HK4 := hid_of (HK3.out.trans hk4)
      have HX7 := hid_of (box_kept hk4 HX6.out (fun f => f))
      have HX8 := hid_of (box_kept hk4 HX5.out (fun f => f))
      have HFB := hid_of (HFA.out.same hk4)
      clear hk4 HSH HK3 HX6 HX5 HFA c0 c1 c2
      go_wp2_with fail
      obtain ⟨BF, hBF⟩ : ∃ g, g = w1.heap.size := ⟨_, rfl⟩
      rw [← hBF] at HFB
      clear hBF
      go_loopw [7, 8] (fun okv kv wr => ∃ (k : Nat), k ≤ nf ∧ kv = .int .i64 (k : Int) ∧ okv = .bool true ∧ Hid (Kept (fun _ => False) W wr) ∧ Hid (wr.heap[g6]? = some (.cells #[.int .i64 0, .int .i64 0, .int .i64 0] 38 (0, 0))) ∧ Hid (wr.heap[g5]? = some (.cells #[.slice hao nf hc, .slice tao nt tc, .slice lao nl lc, .slice (some ⟨gl, 0, none⟩) nf nf, .int .i64 fce, .int .i64 fco] 33 (0, 0))) ∧ Hid (FactsAt wr BF nf (.agg #[.slice hao nf hc, .slice tao nt tc, .slice lao nl lc, .slice (some ⟨gl, 0, none⟩) nf nf, .int .i64 fce, .int .i64 fco]) fx)) (fun _ kv _ => nf - (intOf kv).toNat)
      case atStart => exact ⟨0, by omega, rfl, rfl, HK4, HX7, HX8, HFB⟩
      case round =>
        clear HK4 HX7 HX8 HFB
        obtain ⟨k, hk, rfl, rfl, HKR, HX7, HX8, HFB⟩ := hrel
        by_cases hlt : k < nf
        · have hltI : (k : Int) < (nf : Int) := by omega
          obtain ⟨f, hfk⟩ : ∃ f, p.fns[k]? = some f := ⟨_, List.getElem?_eq_getElem (by rw [← HNF.out]; exact hlt)⟩
          have HTR := hid_of (tried_any _ _ p ns wr B (HPG.out.kept HKR.out (fun _ _ f => f)) (Nat.le_trans HBW.out HKR.out.size) HO.out (HU.out.same HKR.out) HNR.out HNL.out HPO.out k f hfk)
          have hSS := steps_ok p f (HPO.out f (List.mem_of_getElem? hfk)) HPO.out
          obtain ⟨hs0, hh0, hft0⟩ := HFIT.out k f hfk
          have HH0 := hid_of hh0
          have HF0 := hid_of hft0
          have HSS := hid_of hSS
          have hb1 := box_kept HKR.out HB1.out (fun f => f)
          have c0 := cell_block _ _ 0 _ _ _ hb1
          have c1 := cell_block _ _ 1 _ _ _ hb1
          have c2 := cell_block _ _ 2 _ _ _ hb1
          clear hb1 hfk hSS hh0 hft0
          go_wp2_with fail
          refine HTR.out.mono ?_
          rintro e w5 ⟨hk5, hor⟩
          have HK5 := hid_of (HKR.out.trans hk5)
          have HX9 := hid_of (box_kept hk5 HX7.out (fun f => f))
          have HX10 := hid_of (box_kept hk5 HX8.out (fun f => f))
          have HFC := hid_of (HFB.out.same hk5)
          have f0 := cell_block _ _ 0 _ _ _ HX9.out
          have q0 := cell_block _ _ 0 _ _ _ HX10.out
          clear hk5 HTR c0 c1 c2 HKR HX7 HX8 HFB
          rcases hor with ⟨hv, hs, rfl, hown, hfit⟩ | ⟨rfl, hno⟩
          · have hse : hs = hs0 := hfit.uniq HSS.out HF0.out
            subst hse
            obtain ⟨hao', hc', tao', tc', nt', lao', lc', nl', gl', HV', ev, hrow, hht⟩ := HFC.out.heights
            simp only [Value.agg.injEq, Array.mk.injEq, List.cons.injEq, Value.slice.injEq, and_true, true_and] at ev
            obtain ⟨⟨rfl, rfl⟩, hrest⟩ := ev
            clear hrest
            obtain ⟨hu0, huV, huO⟩ := hht k hs HH0.out
            obtain ⟨hg, hgc, e9⟩ := own_at9 hrow (by omega)
            simp only [Value.slice.injEq] at e9
            obtain ⟨rfl, _, rfl⟩ := e9
            have t0 : w5.cell? ⟨hg, k, none⟩ = some hu0 := by rw [hrow.cellAt _ (by omega)]; exact huV
            have hlen : hs.length ≤ 10000 := by rw [hfit.len]; have := HSS.out.pos; omega
            have HST := hid_of (same_true hv hu0 hs w5 _ _ hown huO hlen)
            obtain ⟨hva, hvc, e1⟩ := ownsRow_shape hown
            obtain ⟨hua, huc, e2⟩ := ownsRow_shape huO
            obtain ⟨hl, hhl⟩ : ∃ z, z = hs.length := ⟨_, rfl⟩
            rw [← hhl] at e1 e2
            subst e1
            subst e2
            clear hown hfit hrow hht huV huO hlen hhl HF0 HH0
            have hnk : ¬ ((nf : Int) ≤ (k : Int)) := by omega
            go_wp2_with fail
            refine HST.out.mono ?_
            rintro e w6 ⟨rfl, hk6⟩
            have HK6 := hid_of (HK5.out.trans hk6)
            have HX11 := hid_of (box_kept hk6 HX9.out (fun f => f))
            have HX12 := hid_of (box_kept hk6 HX10.out (fun f => f))
            have HFD := hid_of (HFC.out.same hk6)
            clear hk6 HST HK5 HX9 HX10 HFC f0 q0 t0
            go_wp2
            go_roundw
            case rel => exact ⟨k + 1, by omega, by go_num, rfl, HK6, HX11, HX12, HFD⟩
            case measure => simp [intOf]; omega
          · exact absurd HF0.out (hno hs0)
        · have hltI : ¬ ((k : Int) < (nf : Int)) := by omega
          have hb1 := box_kept HKR.out HB1.out (fun f => f)
          have c2 := cell_block _ _ 2 _ _ _ hb1
          have f0 := cell_block _ _ 0 _ _ _ HX7.out
          clear hb1
          go_wp2_with fail
          refine (head_any wr).mono ?_
          rintro e w9 ⟨rfl, hk9⟩
          have HK9 := hid_of ((HKW.out.trans HKR.out).trans hk9)
          clear hk9
          go_wp2
          go_ret
          exact ⟨rfl, HK9.out⟩
end Go.Proofs.YtcaadgcfceommaaGreat

import Derived.Test.YtcaadgcfceommaaGreatTJk
namespace Go.Proofs.YtcaadgcfceommaaGreat
open Go.RowKit
set_option linter.unusedVariables false
set_option linter.unusedSimpArgs false
set_option maxRecDepth 100000
def RwN (w : World) (v : Value) (n : Nat) (H : List (List Int)) : Prop := ∃ HV : List Value, w.ownsRow 0 30 1 v n HV ∧ H.length = n ∧ ∀ (i : Nat) (l : List Int), H[i]? = some l → ∃ u, HV[i]? = some u ∧ OwnN w 0 u l
theorem RwN.same {w w' : World} {v : Value} {n : Nat} {H : List (List Int)} (h : RwN w v n H) (hk : KF w w') : RwN w' v n H := by
 obtain ⟨HV, h1, h2, h3⟩ := h
 exact ⟨HV, hk.ownsRow h1 (fun _ _ f => f), h2, fun i l hl => by
  obtain ⟨u, a, b⟩ := h3 i l hl
  exact ⟨u, a, hk.ownsRow b (fun _ _ f => f)⟩⟩
theorem RwN.look {w : World} {v : Value} {n : Nat} {H : List (List Int)} (h : RwN w v n H) (hn : 0 < n) : ∃ g c, v = .slice (some ⟨g, 0, none⟩) n c ∧ ∀ w', KF w w' → ∀ i, i < n → ∃ u, w'.cell? ⟨g, i, none⟩ = some u ∧ OwnN w' 0 u (H.getD i []) := by
 obtain ⟨HV, h1, h2, h3⟩ := h
 obtain ⟨g, c, rfl⟩ := own_at9k h1 hn
 refine ⟨g, c, rfl, fun w' hk i hi => ?_⟩
 have hi' : i < H.length := by omega
 obtain ⟨u, a, b⟩ := h3 i _ (List.getElem?_eq_getElem hi')
 refine ⟨u, ?_, ?_⟩
 ·have := (hk.ownsRow h1 (fun _ _ f => f)).cells rfl i u a
  rwa [Addr.add_lit, Nat.zero_add] at this
 ·have e : H.getD i [] = H[i] := by simp [List.getD, List.getElem?_eq_getElem hi']
  rw [e]
  exact hk.ownsRow b (fun _ _ f => f)
set_option maxHeartbeats 40000000 in
theorem reached_ref (v : Value) (p : PG) (B : Nat) (w : World) (hpg : PgIs w B v p) (hall : ∀ f ∈ p.fns, FnOk p f) (hn64 : 1 ≤ p.fns.length ∧ p.fns.length ≤ 64) (hvv : Value) (H : List (List Int)) (hH : RwN w hvv p.fns.length H) (hlen : ∀ (i : Nat) (f : FN), p.fns[i]? = some f → (H.getD i []).length = f.code.length) (q : Nat) (hq : q < p.fns.length) :
  Calls Tryz.prog 42 #[v, hvv, .int .i64 (q : Int)] w fun e w' => ∃ (g : Nat) (cs : List Bool), e = .returned (.slice (some ⟨g, 0, none⟩) p.fns.length p.fns.length) ∧ w'.ownsRow w.heap.size 4 1 (.slice (some ⟨g, 0, none⟩) p.fns.length p.fns.length) p.fns.length (bools cs) ∧ cs.length = p.fns.length ∧ (∀ i, i < p.fns.length → (cs.getD i false = true ↔ Plus (cnx p H) q i)) ∧ KF w w' := by
 have hpg0 := hpg
 obtain ⟨dv, fv, rfl, hd, hdl, hfr⟩ := hpg
 obtain ⟨dao, dc, rfl⟩ := hd.shape
 obtain ⟨fao, fc, rfl⟩ := hfr.shape
 have hok := cnx_ok hall H
 obtain ⟨hg, hc, rfl, HL⟩ := hH.look (by omega)
 obtain ⟨HV, HL9, _⟩ := hH
 have HCALL : Hid (∀ (j : Nat) (u : Value) w', j < p.fns.length → KF w w' → OwnN w' 0 u (H.getD j []) → Calls Tryz.prog 71 #[.agg #[.int .i64 p.mem, .slice dao p.data.length dc, .slice fao p.fns.length fc], .int .i64 (j : Int), u] w' fun e w2 => ∃ v', e = .returned v' ∧ OwnN w2 w'.heap.size v' (cnx p H j) ∧ KF w' w2) := fun j u w' hj hw hu => by
  have hf : p.fns[j]? = some p.fns[j] := List.getElem?_eq_getElem hj
  rw [cnx_at hf]
  exact calls_ref _ p B w' (hpg0.kept hw (fun _ _ f => f)) j _ hf (hall _ (List.mem_of_getElem? hf)) u _ hu (hlen j _ hf)
 obtain ⟨nx, hnx⟩ : ∃ z : Nat → List Int, z = cnx p H := ⟨_, rfl⟩
 rw [← hnx] at hok HCALL ⊢
 obtain ⟨nf, hnf⟩ := nmd (p.fns.length)
 obtain ⟨nd, hnd⟩ := nmd (p.data.length)
 obtain ⟨mem, hmem⟩ := nmd (p.mem)
 rw [← hnf, ← hnd, ← hmem] at HCALL
 rw [← hnf, ← hnd, ← hmem]
 rw [← hnf] at hok hn64 hq HL
 have hn1 := hn64.1
 have hn4 := hn64.2
 have hqI : (q : Int) < (nf : Int) := by omega
 obtain ⟨gb, hgb⟩ := nmd (w.heap.size)
 obtain ⟨W, hW⟩ := nmd (w.alloc (.cells #[.int .i64 mem, .slice dao nd dc, .slice fao nf fc] 25))
 have k1 : KF w W := by rw [hW]; exact (Kept.refl _ _).alloc _
 have x1 : W.heap[gb]? = some (.cells #[.int .i64 mem, .slice dao nd dc, .slice fao nf fc] 25 (0, 0)) := by rw [hW, hgb]; exact heap_alloc_new w _
 have hmk := makeBool W nf (by omega)
 obtain ⟨gc, hgc⟩ := nmd (W.heap.size)
 have hb2 := heap_alloc_new W (.cells (zbool nf) 4)
 rw [← hgc] at hb2
 have k2 : KF W (W.alloc (.cells (zbool nf) 4)) := (Kept.refl _ _).alloc _
 have hA0 : AgK w (W.alloc (.cells (zbool nf) 4)) gb gc nf #[.int .i64 mem, .slice dao nd dc, .slice fao nf fc] (.slice none 0 0) [] (List.replicate nf false) :=
  ⟨box_kept k2 x1 id, World.ownsRow_nil _ _ _ _, own_zbool _ w.heap.size gc nf hb2 (by rw [hgc]; exact k1.size) (by omega), k1.trans k2, by simp⟩
 have HA0 := hid_of hA0
 have HOK := hid_of hok
 have HST := hid_of (ReI.start hok hq)
 have HLN := hid_of (hok q hq).2
 have HQ := hid_of hq
 have HLK := hid_of HL
 have HGL : Hid (hg < w.heap.size) := (HL9.lt hg rfl).2
 obtain ⟨z0, z1, z2, _⟩ := look3 x1
 clear k1 x1 hd hdl hfr hnf hnd hmem hpg0 hnx hok hA0 hb2 k2 HL9 hlen hall HL hn64 hq
 go_enter Tryz.func42, Tryz.ntmps42
 go_upto_region 1 with fail
 rw [← hW, ← hgb]
 clear hW hgb
 go_upto_region 2 with fail
 rw [← hgc]
 clear hmk hgc z0 z1 z2
 generalize W.alloc (.cells (zbool nf) 4) = W2 at *
 obtain ⟨u, hu0, hu1⟩ := HLK.out W2 HA0.out.kept q HQ.out
 have HSX : Hid (∀ w', KF W2 w' → w'.cell? ⟨gb, 0, none⟩ = some (.int .i64 mem) ∧ w'.cell? ⟨gb, 1, none⟩ = some (.slice dao nd dc) ∧ w'.cell? ⟨gb, 2, none⟩ = some (.slice fao nf fc) ∧ w'.cell? ⟨hg, q, none⟩ = some u) := fun w' hw => by
  obtain ⟨z0, z1, z2, _⟩ := look3 (HA0.out.same hw).box
  exact ⟨z0, z1, z2, hw.cell hu0 id⟩
 have HU1 := hid_of hu1
 obtain ⟨uao, uc, hus⟩ := ownsRow_shape hu1
 have HUS : Hid (u.oneCell' = true) := by unfold Hid; rw [hus]; rfl
 clear hu0 hu1 hus
 refine wp_region_held_drew (S := fun w' => KF W2 w') (by kernel_rfl) ((Kept.refl _ _).drew) (fun hHeld => ?_)
 have hKd : KF W2 W2.drew := (Kept.refl _ _).drew
 generalize W2.drew = wd at *
 iterate 6
  refine tkn (v := ?_) 0 rfl ?_ ?_; rotate_left 1
  ·intro w hSw; obtain ⟨z0, z1, z2, z3⟩ := HSX.out w hSw; go_simp; try with_reducible rfl
  try simp only [Act.put, tdy]
 refine rdy 6 rfl (fun K hK => ?_)
 go_simp
 refine (HCALL.out q u _ HQ.out (HA0.out.kept.trans hHeld) (hHeld.ownsRow HU1.out (fun _ _ f => f))).mono ?_
 rintro e w3 ⟨rv, rfl, hrv, hk3⟩
 have hHeld0 := hid_of hHeld
 have hkk := hHeld.trans hk3
 refine hK.out _ _ hkk (fun hHeld => ?_)
 clear hK K
 try simp only [Act.put, tdy]
 iterate 1
  refine tkn (v := ?_) 7 rfl ?_ ?_; rotate_left 1
  ·intro w hSw; go_simp; try with_reducible rfl
  try simp only [Act.put, tdy]
 refine wpAnyH_done (by kernel_rfl) ?_ _
 have HA1 := hid_of (HA0.out.same hkk)
 have HQ0 := hid_of (QV.ofOwn (own_mono hrv (show w.heap.size ≤ _ from (HA0.out.kept.trans hHeld0.out).size)))
 have HM0 : Hid (4097 * (List.replicate nf false).count false + (nx q).length + 1 ≤ 4097 * nf + 4098) := by
  have := HLN.out
  unfold Hid
  simp
  omega
 clear hrv hk3 hkk hHeld hKd HA0 HSX HU1 HUS hHeld0
 go_wp2_with fail
 go_loopg [8] (4097 * nf + 4098) (fun gk rv wr => ∃ (l : List Int) (cs : List Bool), Hid (QV wr w.heap.size rv l) ∧ Hid (AgK w wr gb gc nf #[.int .i64 mem, .slice dao nd dc, .slice fao nf fc] (.slice none 0 0) [] cs) ∧ Hid (ReI nx nf q l cs) ∧ Hid (4097 * cs.count false + l.length + 1 ≤ gk) ∧ Hid (4097 * cs.count false + l.length ≤ 4097 * nf + 4098))
 case atStart => exact ⟨_, _, HQ0, HA1, HST, HM0, by have := HM0.out; unfold Hid; omega⟩
 case round =>
  clear HQ0 HA1 HST HM0 HLN
  obtain ⟨l, cs, HQV, HA, HC, HM, HML⟩ := hrel
  cases l with
  | nil =>
   as_aux_lemma =>
    have HNO := hid_of (ReI.fin HOK.out HQ.out HC.out)
    have HCL := hid_of HC.out.len
    obtain ⟨ao, c, hv⟩ : ∃ ao c, u8 = .slice ao 0 c := by
     rcases HQV.out with ⟨e, _⟩ | ⟨g, o, c, e, _⟩
     ·exact ⟨_, _, e⟩
     ·exact ⟨_, _, e⟩
    subst hv
    clear HQV HC HM HML HCALL
    go_wp2
    go_ret
    exact ⟨gc, cs, rfl, HA.out.cc, HCL.out, HNO.out, HA.out.kept⟩
  | cons x l =>
   as_aux_lemma =>
    obtain ⟨g, o, c, hv, hq⟩ : ∃ g o c, u8 = .slice (some ⟨g, o, none⟩) (l.length + 1) c ∧ Que wr w.heap.size g o c (x :: l) := by
     rcases HQV.out with ⟨_, e⟩ | ⟨g, o, c, e, h⟩
     ·cases e
     ·exact ⟨g, o, c, e, h⟩
    subst hv
    obtain ⟨xn, hxn⟩ : ∃ z : Nat, x = (z : Int) := ⟨x.toNat, by have := (HC.out.rg x (by simp)).1; omega⟩
    subst hxn
    have hx2 := (HC.out.rg (xn : Int) (by simp)).2
    have u0 := hq.2.2.2 0 (by simp)
    simp only [Nat.add_zero, List.getD_cons_zero] at u0
    have hlc : l.length + 1 ≤ c := hq.2.1
    have hll : l.length ≤ 270000 := by
     have := HML.out
     simp at this
     omega
    obtain ⟨m, hm⟩ := nmd (l.length)
    have hqc := hq.cut
    have HLM := hid_of hm
    rw [← hm] at hll hlc ⊢
    obtain ⟨d0, d1⟩ := HA.out.cAt (i := xn) (by omega)
    have hxn3 : xn < nf := by omega
    have HXN := hid_of hxn3
    have HNL := hid_of (HOK.out xn hxn3).2
    clear hq HQV hm
    by_cases hc1 : c = 1
    ·subst hc1
     have hm0 : m = 0 := by omega
     subst hm0
     have HQC : Hid (Que wr w.heap.size g o 0 l) := by unfold Hid; simpa using hqc
     clear hqc
     simp only [Nat.zero_add]
     cases hcb : cs.getD xn false with
     | true =>
      as_aux_lemma =>
       have HC2 := hid_of (HC.out.skip hcb)
       have HGK : Hid (1 ≤ gk ∧ 4097 * cs.count false + l.length + 1 ≤ gk - 1 ∧ 4097 * cs.count false + l.length ≤ 4097 * nf + 4098) := by
        have h1 := HM.out
        have h2 := HML.out
        simp at h1 h2
        unfold Hid
        omega
       rw [hcb] at d0
       have HQN : Hid (QV wr w.heap.size (.slice (some ⟨g, o, none⟩) 0 (0)) l) := .inr ⟨g, o, 0, by rw [HLM.out], HQC.out⟩
       clear hcb HC HM HML HNL HCALL
       go_wp2_with fail
       go_roundg (gk - 1)
       case measure => have := HGK.out; omega
       case rel => exact ⟨l, cs, HQN, HA, HC2, HGK.out.2.1, HGK.out.2.2⟩
     | false =>
      as_aux_lemma =>
       have HC2 := hid_of (HC.out.take HOK.out)
       have hct := count_set (show xn < cs.length by rw [HC.out.len]; exact hxn3) hcb
       have HGK : Hid (1 ≤ gk ∧ 4097 * (cs.set xn true).count false + (l ++ nx xn).length + 1 ≤ gk - 1 ∧ 4097 * (cs.set xn true).count false + (l ++ nx xn).length ≤ 4097 * nf + 4098) := by
        have h1 := HM.out
        have h2 := HML.out
        have h3 := HNL.out
        simp at h1 h2
        unfold Hid
        rw [List.length_append]
        omega
       have HA2 := hid_of (HA.out.set xn)
       have HQ2 := hid_of (HA.out.que HQC.out xn)
       rw [hcb] at d0
       clear hcb HC HM HML hct HQC
       go_upto_region 8 with fail
       clear d0 d1 u0 HA
       generalize wr.setCell ⟨gc, xn, none⟩ (.bool true) = w2 at *
       obtain ⟨u, hu0, hu1⟩ := HLK.out w2 HA2.out.kept xn HXN.out
       have HSX : Hid (∀ w', Kept (fun k => k = g) w2 w' → w'.cell? ⟨gb, 0, none⟩ = some (.int .i64 mem) ∧ w'.cell? ⟨gb, 1, none⟩ = some (.slice dao nd dc) ∧ w'.cell? ⟨gb, 2, none⟩ = some (.slice fao nf fc) ∧ w'.cell? ⟨hg, xn, none⟩ = some u) := fun w' hw => by
        obtain ⟨z0, z1, z2, _⟩ := look3 (box_kept hw HA2.out.box (HA2.out.apart HQ2.out).1)
        exact ⟨z0, z1, z2, hw.cell hu0 (fun e => by have e2 : hg = g := e; have := HGL.out; have := HQ2.out.1; omega)⟩
       have HU1 := hid_of hu1
       obtain ⟨uao, uc, hus⟩ := ownsRow_shape hu1
       have HUS : Hid (u.oneCell' = true) := by unfold Hid; rw [hus]; rfl
       clear hu0 hu1 hus
       refine wp_region_held_drew (S := fun w' => Kept (fun k => k = g) w2 w') (by kernel_rfl) ((Kept.refl _ _).drew) (fun hHeld => ?_)
       have hKd : KF w2 w2.drew := (Kept.refl _ _).drew
       generalize w2.drew = wd at *
       iterate 7
        refine tkn (v := ?_) 0 rfl ?_ ?_; rotate_left 1
        ·intro w hSw; obtain ⟨z0, z1, z2, z3⟩ := HSX.out w hSw; go_simp; try with_reducible rfl
        try simp only [Act.put, tdy]
       refine rdy 7 rfl (fun K hK => ?_)
       go_simp
       refine (HCALL.out xn u _ HXN.out (HA2.out.kept.trans hKd) (hKd.ownsRow HU1.out (fun _ _ f => f))).mono ?_
       rintro e w3 ⟨yv, rfl, hyv, hk3⟩
       have hkk := hKd.trans hk3
       refine hK.out _ _ (hkk.mono (fun _ _ f => f.elim)) (fun hHeld => ?_)
       clear hK K
       try simp only [Act.put, tdy]
       have hq3 := HQ2.out.kept hkk id
       have hA3 := HA2.out.same hkk
       obtain ⟨g', o', c', w4, hr, hq4, hk4, _⟩ := que_app w3 w.heap.size wd.heap.size g (o) (0) l yv (nx xn) hq3 hyv (by have := HNL.out; have := HLM.out; omega) hA3.kept.size
       rw [← HLM.out] at hr
       have HA4 := hid_of (hA3.app hq3 hk4)
       have HQN : Hid (QV w4 w.heap.size (.slice (some ⟨g', o', none⟩) (0 + (nx xn).length) c') (l ++ nx xn)) := .inr ⟨g', o', c', by rw [List.length_append, HLM.out], hq4⟩
       have HR := hid_of hr
       have HKS : Hid (Kept (fun k => k = g) w2 w4) := (hkk.mono (fun _ _ f => f.elim)).trans hk4
       obtain ⟨yao, yc, hys⟩ := ownsRow_shape hyv
       subst hys
       clear hr hq4 hk4 hA3 hq3 hyv hk3 HQ2 HA2 HNL hkk hKd HSX
       generalize (nx xn).length = yl at *
       generalize 0 + yl = yl2 at *
       refine rdy 8 rfl (fun K hK => ?_)
       refine step_app rfl (.tmp 37) (.tmp 44) 30 30 rfl _ _ rfl rfl (.slice (some ⟨g', o', none⟩) yl2 c') w4 HR.out ?_
       refine hK.out _ _ HKS.out (fun hHeld => ?_)
       clear hK K
       try simp only [Act.put, tdy]
       iterate 1
        refine tkn (v := ?_) 9 rfl ?_ ?_; rotate_left 1
        ·intro w hSw; go_simp; try with_reducible rfl
        try simp only [Act.put, tdy]
       refine wpAnyH_done (by kernel_rfl) ?_ _
       clear hHeld HKS HR
       go_wp2_with fail
       go_roundg (gk - 1)
       case measure => have := HGK.out; omega
       case rel => exact ⟨_, _, HQN, HA4, HC2, HGK.out.2.1, HGK.out.2.2⟩
    ·have HQC : Hid (Que wr w.heap.size g (o + 1) (c - 1) l) := by rw [if_neg hc1] at hqc; exact hqc
     clear hqc
     cases hcb : cs.getD xn false with
     | true =>
      as_aux_lemma =>
       have HC2 := hid_of (HC.out.skip hcb)
       have HGK : Hid (1 ≤ gk ∧ 4097 * cs.count false + l.length + 1 ≤ gk - 1 ∧ 4097 * cs.count false + l.length ≤ 4097 * nf + 4098) := by
        have h1 := HM.out
        have h2 := HML.out
        simp at h1 h2
        unfold Hid
        omega
       rw [hcb] at d0
       have HQN : Hid (QV wr w.heap.size (.slice (some ⟨g, o + 1, none⟩) m (c - 1)) l) := .inr ⟨g, o + 1, c - 1, by rw [HLM.out], HQC.out⟩
       clear hcb HC HM HML HNL HCALL
       go_wp2_with fail
       go_roundg (gk - 1)
       case measure => have := HGK.out; omega
       case rel => exact ⟨l, cs, HQN, HA, HC2, HGK.out.2.1, HGK.out.2.2⟩
     | false =>
      as_aux_lemma =>
       have HC2 := hid_of (HC.out.take HOK.out)
       have hct := count_set (show xn < cs.length by rw [HC.out.len]; exact hxn3) hcb
       have HGK : Hid (1 ≤ gk ∧ 4097 * (cs.set xn true).count false + (l ++ nx xn).length + 1 ≤ gk - 1 ∧ 4097 * (cs.set xn true).count false + (l ++ nx xn).length ≤ 4097 * nf + 4098) := by
        have h1 := HM.out
        have h2 := HML.out
        have h3 := HNL.out
        simp at h1 h2
        unfold Hid
        rw [List.length_append]
        omega
       have HA2 := hid_of (HA.out.set xn)
       have HQ2 := hid_of (HA.out.que HQC.out xn)
       rw [hcb] at d0
       clear hcb HC HM HML hct HQC
       go_upto_region 8 with fail
       clear d0 d1 u0 HA
       generalize wr.setCell ⟨gc, xn, none⟩ (.bool true) = w2 at *
       obtain ⟨u, hu0, hu1⟩ := HLK.out w2 HA2.out.kept xn HXN.out
       have HSX : Hid (∀ w', Kept (fun k => k = g) w2 w' → w'.cell? ⟨gb, 0, none⟩ = some (.int .i64 mem) ∧ w'.cell? ⟨gb, 1, none⟩ = some (.slice dao nd dc) ∧ w'.cell? ⟨gb, 2, none⟩ = some (.slice fao nf fc) ∧ w'.cell? ⟨hg, xn, none⟩ = some u) := fun w' hw => by
        obtain ⟨z0, z1, z2, _⟩ := look3 (box_kept hw HA2.out.box (HA2.out.apart HQ2.out).1)
        exact ⟨z0, z1, z2, hw.cell hu0 (fun e => by have e2 : hg = g := e; have := HGL.out; have := HQ2.out.1; omega)⟩
       have HU1 := hid_of hu1
       obtain ⟨uao, uc, hus⟩ := ownsRow_shape hu1
       have HUS : Hid (u.oneCell' = true) := by unfold Hid; rw [hus]; rfl
       clear hu0 hu1 hus
       refine wp_region_held_drew (S := fun w' => Kept (fun k => k = g) w2 w') (by kernel_rfl) ((Kept.refl _ _).drew) (fun hHeld => ?_)
       have hKd : KF w2 w2.drew := (Kept.refl _ _).drew
       generalize w2.drew = wd at *
       iterate 7
        refine tkn (v := ?_) 0 rfl ?_ ?_; rotate_left 1
        ·intro w hSw; obtain ⟨z0, z1, z2, z3⟩ := HSX.out w hSw; go_simp; try with_reducible rfl
        try simp only [Act.put, tdy]
       refine rdy 7 rfl (fun K hK => ?_)
       go_simp
       refine (HCALL.out xn u _ HXN.out (HA2.out.kept.trans hKd) (hKd.ownsRow HU1.out (fun _ _ f => f))).mono ?_
       rintro e w3 ⟨yv, rfl, hyv, hk3⟩
       have hkk := hKd.trans hk3
       refine hK.out _ _ (hkk.mono (fun _ _ f => f.elim)) (fun hHeld => ?_)
       clear hK K
       try simp only [Act.put, tdy]
       have hq3 := HQ2.out.kept hkk id
       have hA3 := HA2.out.same hkk
       obtain ⟨g', o', c', w4, hr, hq4, hk4, _⟩ := que_app w3 w.heap.size wd.heap.size g (o + 1) (c - 1) l yv (nx xn) hq3 hyv (by have := HNL.out; have := HLM.out; omega) hA3.kept.size
       rw [← HLM.out] at hr
       have HA4 := hid_of (hA3.app hq3 hk4)
       have HQN : Hid (QV w4 w.heap.size (.slice (some ⟨g', o', none⟩) (m + (nx xn).length) c') (l ++ nx xn)) := .inr ⟨g', o', c', by rw [List.length_append, HLM.out], hq4⟩
       have HR := hid_of hr
       have HKS : Hid (Kept (fun k => k = g) w2 w4) := (hkk.mono (fun _ _ f => f.elim)).trans hk4
       obtain ⟨yao, yc, hys⟩ := ownsRow_shape hyv
       subst hys
       clear hr hq4 hk4 hA3 hq3 hyv hk3 HQ2 HA2 HNL hkk hKd HSX
       generalize (nx xn).length = yl at *
       generalize m + yl = yl2 at *
       refine rdy 8 rfl (fun K hK => ?_)
       refine step_app rfl (.tmp 37) (.tmp 44) 30 30 rfl _ _ rfl rfl (.slice (some ⟨g', o', none⟩) yl2 c') w4 HR.out ?_
       refine hK.out _ _ HKS.out (fun hHeld => ?_)
       clear hK K
       try simp only [Act.put, tdy]
       iterate 1
        refine tkn (v := ?_) 9 rfl ?_ ?_; rotate_left 1
        ·intro w hSw; go_simp; try with_reducible rfl
        try simp only [Act.put, tdy]
       refine wpAnyH_done (by kernel_rfl) ?_ _
       clear hHeld HKS HR
       go_wp2_with fail
       go_roundg (gk - 1)
       case measure => have := HGK.out; omega
       case rel => exact ⟨_, _, HQN, HA4, HC2, HGK.out.2.1, HGK.out.2.2⟩
structure Sm (w0 w : World) (g gC gT gI gW nf : Nat) (C : Array Value) (cs ts : List Int) (is ws : List Bool) : Prop where
 box : w.heap[g]? = some (.cells C 88 (0, 0))
 cc : w.ownsRow w0.heap.size 3 1 (.slice (some ⟨gC, 0, none⟩) nf nf) nf (ints cs)
 tt : w.ownsRow w0.heap.size 3 1 (.slice (some ⟨gT, 0, none⟩) nf nf) nf (ints ts)
 ii : w.ownsRow w0.heap.size 4 1 (.slice (some ⟨gI, 0, none⟩) nf nf) nf (bools is)
 ww : w.ownsRow w0.heap.size 4 1 (.slice (some ⟨gW, 0, none⟩) nf nf) nf (bools ws)
 ap : gC ≠ gT ∧ gI ≠ gW
 ln : cs.length = nf ∧ ts.length = nf ∧ is.length = nf ∧ ws.length = nf
 kept : KF w0 w
section
variable {w0 w w' : World} {g gC gT gI gW nf : Nat} {C : Array Value} {cs ts : List Int} {is ws : List Bool}
theorem Sm.apart (h : Sm w0 w g gC gT gI gW nf C cs ts is ws) : (g ≠ gC ∧ g ≠ gT ∧ g ≠ gI ∧ g ≠ gW) ∧ (gC ≠ gI ∧ gC ≠ gW ∧ gT ≠ gI ∧ gT ≠ gW) ∧ w0.heap.size ≤ gC ∧ w0.heap.size ≤ gT ∧ w0.heap.size ≤ gI ∧ w0.heap.size ≤ gW :=
 ⟨⟨fun e => own_box2 h.cc h.box (by decide) (by rw [e]; rfl), fun e => own_box2 h.tt h.box (by decide) (by rw [e]; rfl), fun e => own_box2 h.ii h.box (by decide) (by rw [e]; rfl), fun e => own_box2 h.ww h.box (by decide) (by rw [e]; rfl)⟩,
  ⟨fun e => own_two h.cc h.ii (by decide) gC rfl (by rw [e]; rfl), fun e => own_two h.cc h.ww (by decide) gC rfl (by rw [e]; rfl), fun e => own_two h.tt h.ii (by decide) gT rfl (by rw [e]; rfl), fun e => own_two h.tt h.ww (by decide) gT rfl (by rw [e]; rfl)⟩,
  (h.cc.lt gC rfl).1, (h.tt.lt gT rfl).1, (h.ii.lt gI rfl).1, (h.ww.lt gW rfl).1⟩
theorem Sm.same (h : Sm w0 w g gC gT gI gW nf C cs ts is ws) (hk : KF w w') : Sm w0 w' g gC gT gI gW nf C cs ts is ws :=
 ⟨box_kept hk h.box id, hk.ownsRow h.cc (fun _ _ f => f), hk.ownsRow h.tt (fun _ _ f => f), hk.ownsRow h.ii (fun _ _ f => f), hk.ownsRow h.ww (fun _ _ f => f), h.ap, h.ln, h.kept.trans hk⟩
theorem Sm.setC (h : Sm w0 w g gC gT gI gW nf C cs ts is ws) (i : Nat) (x : Int) : Sm w0 (w.setCell ⟨gC, i, none⟩ (.int .i64 x)) g gC gT gI gW nf C (cs.set i x) ts is ws := by
 obtain ⟨⟨a1, a2, a3, a4⟩, ⟨b1, b2, b3, b4⟩, s1, s2, s3, s4⟩ := h.apart
 have hk := kept_set w gC i (.int .i64 x)
 refine ⟨box_kept hk h.box (fun e => a1 e), ?_, hk.ownsRow h.tt (fun q hq e => by simp [Value.ownBlock] at hq; have := h.ap.1; omega), hk.ownsRow h.ii (fun q hq e => by simp [Value.ownBlock] at hq; omega), hk.ownsRow h.ww (fun q hq e => by simp [Value.ownBlock] at hq; omega), h.ap, by rw [List.length_set]; exact h.ln, h.kept.step hk (fun j hj e => by omega)⟩
 rw [show ints (cs.set i x) = (ints cs).set i (.int .i64 x) by simp [ints, List.map_set]]
 exact (World.ownsRow.stored h.cc i (.int .i64 x)).1
theorem Sm.setT (h : Sm w0 w g gC gT gI gW nf C cs ts is ws) (i : Nat) (x : Int) : Sm w0 (w.setCell ⟨gT, i, none⟩ (.int .i64 x)) g gC gT gI gW nf C cs (ts.set i x) is ws := by
 obtain ⟨⟨a1, a2, a3, a4⟩, ⟨b1, b2, b3, b4⟩, s1, s2, s3, s4⟩ := h.apart
 have hk := kept_set w gT i (.int .i64 x)
 refine ⟨box_kept hk h.box (fun e => a2 e), hk.ownsRow h.cc (fun q hq e => by simp [Value.ownBlock] at hq; have := h.ap.1; omega), ?_, hk.ownsRow h.ii (fun q hq e => by simp [Value.ownBlock] at hq; omega), hk.ownsRow h.ww (fun q hq e => by simp [Value.ownBlock] at hq; omega), h.ap, by rw [List.length_set]; exact h.ln, h.kept.step hk (fun j hj e => by omega)⟩
 rw [show ints (ts.set i x) = (ints ts).set i (.int .i64 x) by simp [ints, List.map_set]]
 exact (World.ownsRow.stored h.tt i (.int .i64 x)).1
theorem Sm.setI (h : Sm w0 w g gC gT gI gW nf C cs ts is ws) (i : Nat) (x : Bool) : Sm w0 (w.setCell ⟨gI, i, none⟩ (.bool x)) g gC gT gI gW nf C cs ts (is.set i x) ws := by
 obtain ⟨⟨a1, a2, a3, a4⟩, ⟨b1, b2, b3, b4⟩, s1, s2, s3, s4⟩ := h.apart
 have hk := kept_set w gI i (.bool x)
 refine ⟨box_kept hk h.box (fun e => a3 e), hk.ownsRow h.cc (fun q hq e => by simp [Value.ownBlock] at hq; omega), hk.ownsRow h.tt (fun q hq e => by simp [Value.ownBlock] at hq; omega), ?_, hk.ownsRow h.ww (fun q hq e => by simp [Value.ownBlock] at hq; have := h.ap.2; omega), h.ap, by rw [List.length_set]; exact h.ln, h.kept.step hk (fun j hj e => by omega)⟩
 rw [show bools (is.set i x) = (bools is).set i (.bool x) by simp [bools, List.map_set]]
 exact (World.ownsRow.stored h.ii i (.bool x)).1
theorem Sm.setW (h : Sm w0 w g gC gT gI gW nf C cs ts is ws) (i : Nat) (x : Bool) : Sm w0 (w.setCell ⟨gW, i, none⟩ (.bool x)) g gC gT gI gW nf C cs ts is (ws.set i x) := by
 obtain ⟨⟨a1, a2, a3, a4⟩, ⟨b1, b2, b3, b4⟩, s1, s2, s3, s4⟩ := h.apart
 have hk := kept_set w gW i (.bool x)
 refine ⟨box_kept hk h.box (fun e => a4 e), hk.ownsRow h.cc (fun q hq e => by simp [Value.ownBlock] at hq; omega), hk.ownsRow h.tt (fun q hq e => by simp [Value.ownBlock] at hq; omega), hk.ownsRow h.ii (fun q hq e => by simp [Value.ownBlock] at hq; have := h.ap.2; omega), ?_, h.ap, by rw [List.length_set]; exact h.ln, h.kept.step hk (fun j hj e => by omega)⟩
 rw [show bools (ws.set i x) = (bools ws).set i (.bool x) by simp [bools, List.map_set]]
 exact (World.ownsRow.stored h.ww i (.bool x)).1
theorem rowN_at {w : World} {b g n c : Nat} {l : List Int} (h : w.ownsRow b 3 1 (.slice (some ⟨g, 0, none⟩) n c) n (ints l)) (hl : l.length = n) {i : Nat} (hi : i < n) : w.cell? ⟨g, i, none⟩ = some (.int .i64 (l.getD i 0)) ∧ w.frozen? ⟨g, i, none⟩ = false := by
 refine ⟨?_, World.ownsRow.frozenAt h _⟩
 rw [h.cellAt _ (by omega)]
 simp [ints, List.getD, List.getElem?_eq_getElem (show i < l.length by omega)]
theorem rowB_at {w : World} {b g n c : Nat} {l : List Bool} (h : w.ownsRow b 4 1 (.slice (some ⟨g, 0, none⟩) n c) n (bools l)) (hl : l.length = n) {i : Nat} (hi : i < n) : w.cell? ⟨g, i, none⟩ = some (.bool (l.getD i false)) ∧ w.frozen? ⟨g, i, none⟩ = false := by
 refine ⟨?_, World.ownsRow.frozenAt h _⟩
 rw [h.cellAt _ (by omega)]
 simp [bools, List.getD, List.getElem?_eq_getElem (show i < l.length by omega)]
end
theorem look13 {w : World} {g : Nat} {t : TypeId} {c0 c1 c2 c3 c4 c5 c6 c7 c8 c9 c10 c11 c12 : Value} (h : w.heap[g]? = some (.cells #[c0, c1, c2, c3, c4, c5, c6, c7, c8, c9, c10, c11, c12] t (0, 0))) : w.cell? ⟨g, 0, none⟩ = some c0 ∧ w.cell? ⟨g, 1, none⟩ = some c1 ∧ w.cell? ⟨g, 2, none⟩ = some c2 ∧ w.cell? ⟨g, 3, none⟩ = some c3 ∧ w.cell? ⟨g, 4, none⟩ = some c4 ∧ w.cell? ⟨g, 9, none⟩ = some c9 ∧ w.cell? ⟨g, 10, none⟩ = some c10 ∧ w.cell? ⟨g, 11, none⟩ = some c11 ∧ w.cell? ⟨g, 12, none⟩ = some c12 :=
 ⟨cell_block _ _ 0 _ _ _ h, cell_block _ _ 1 _ _ _ h, cell_block _ _ 2 _ _ _ h, cell_block _ _ 3 _ _ _ h, cell_block _ _ 4 _ _ _ h, cell_block _ _ 9 _ _ _ h, cell_block _ _ 10 _ _ _ h, cell_block _ _ 11 _ _ _ h, cell_block _ _ 12 _ _ _ h⟩
theorem rowF_cells {w : World} {B n c pg po : Nat} {fs : List FN} (h : RowF w B (.slice (some ⟨pg, po, none⟩) n c) fs) {j : Nat} {f : FN} (hf : fs[j]? = some f) (hne : 0 < f.code.length) : w.cell? ⟨pg, po + j * 4, none⟩ = some (.int .i64 f.a) ∧ w.cell? ⟨pg, po + j * 4 + 1, none⟩ = some (.int .i64 f.l) ∧ ∃ cg co cc, w.cell? ⟨pg, po + j * 4 + 3, none⟩ = some (.slice (some ⟨cg, co, none⟩) f.code.length cc) ∧ RowI w (.slice (some ⟨cg, co, none⟩) f.code.length cc) f.code := by
 obtain ⟨pg', po', cg, co, cc, e, y0, y1, y2, y3, hri, _, _⟩ := row_instr h hf (List.getElem?_eq_getElem hne)
 cases e
 exact ⟨y0, y1, cg, co, cc, y3, hri⟩
structure SmB (p : PG) (bs : List BD) (w0 : World) (B nd dc nf fc hg hc tg tc pg po : Nat) (mem : Int) (dao : Option Addr) : Prop where
 hbs : Bs p bs
 hok : p.Ok
 hnf : nf = p.fns.length
 hpg : PgIs w0 B (.agg #[.int .i64 mem, .slice dao nd dc, .slice (some ⟨pg, po, none⟩) nf fc]) p
 hlo : B ≤ w0.heap.size
 hhh : RwN w0 (.slice (some ⟨hg, 0, none⟩) nf hc) nf (bs.map BD.hs)
 htt : w0.ownsRow 0 3 1 (.slice (some ⟨tg, 0, none⟩) nf tc) nf (ints (bs.map topP))
theorem hs_at {p : PG} {bs : List BD} {q : Nat} {f : FN} {b : BD} (hb : BAt p bs q f b) (hq : q < bs.length) : (bs.map BD.hs).getD q [] = b.hs ∧ (bs.map topP).getD q 0 = topP b ∧ (bs.map BD.hs).length = bs.length := by
 have := hb.gd
 refine ⟨?_, ?_, by simp⟩
 ·simp only [List.getD, List.getElem?_map, List.getElem?_eq_getElem hq, Option.map_some, Option.getD_some] at this ⊢
  rw [this]
 ·simp only [List.getD, List.getElem?_map, List.getElem?_eq_getElem hq, Option.map_some, Option.getD_some] at this ⊢
  rw [this]
def KnC (nf : Nat) (K : Nat → Int) (cs : List Int) (is : List Bool) : Prop := ∀ i, i < nf → is.getD i false = true → cs.getD i 0 = K i
set_option maxHeartbeats 40000000 in
theorem cells_ref {p : PG} {bs : List BD} {w0 : World} {B nd dc nf fc hg hc tg tc pg po : Nat} {mem : Int} {dao : Option Addr} (hS : SmB p bs w0 B nd dc nf fc hg hc tg tc pg po mem dao) (hno : true ∉ (tourP (leadP bs) bs.length).again) (K : Nat → Int) (hK : CellQ p bs K) (lvv liv : Value) (g gC gT gI gW : Nat) (ts : List Int) (ws : List Bool) :
  ∀ q : Nat, (q : Int) ∈ ordF bs → ∀ (w : World) (cs : List Int) (is : List Bool), Sm w0 w g gC gT gI gW nf #[.int .i64 mem, .slice dao nd dc, .slice (some ⟨pg, po, none⟩) nf fc, .slice (some ⟨hg, 0, none⟩) nf hc, .slice (some ⟨tg, 0, none⟩) nf tc, lvv, liv, .int .i64 0, .int .i64 0, .slice (some ⟨gC, 0, none⟩) nf nf, .slice (some ⟨gT, 0, none⟩) nf nf, .slice (some ⟨gI, 0, none⟩) nf nf, .slice (some ⟨gW, 0, none⟩) nf nf] cs ts is ws → KnC nf K cs is →
   Calls Tryz.prog 43 #[.pointer (some ⟨g, 0, none⟩), .int .i64 (q : Int)] w fun e w' => ∃ cs' is', e = .returned (.int .i64 (K q)) ∧ Sm w0 w' g gC gT gI gW nf #[.int .i64 mem, .slice dao nd dc, .slice (some ⟨pg, po, none⟩) nf fc, .slice (some ⟨hg, 0, none⟩) nf hc, .slice (some ⟨tg, 0, none⟩) nf tc, lvv, liv, .int .i64 0, .int .i64 0, .slice (some ⟨gC, 0, none⟩) nf nf, .slice (some ⟨gT, 0, none⟩) nf nf, .slice (some ⟨gI, 0, none⟩) nf nf, .slice (some ⟨gW, 0, none⟩) nf nf] cs' ts is' ws ∧ KnC nf K cs' is' ∧ Kept (fun k => k = gC ∨ k = gI) w w' := by
 refine ord_ind hS.hbs hno _ ?_
 intro q hq ih w cs is hSm hKn
 obtain ⟨l1, l2, l3, _⟩ := lead_tour hS.hbs
 have hql := l2 _ hq
 have hqb : q < bs.length := by omega
 have hbl := hS.hbs.len
 obtain ⟨f, b, hb⟩ := hS.hbs.in' hqb
 obtain ⟨e1, e2, e3⟩ := hs_at hb hqb
 have hqn : q < nf := by have := hS.hnf; omega
 have hqI : (q : Int) < (nf : Int) := by omega
 have hF := heights_fit _ _ hb.ok b.hs (body_shape hb.bd).2.2.2
 obtain ⟨hn64, hall⟩ := plain_ok p hS.hbs.pl
 have hKq := hK.pos q hq
 have hKe := hK.eq q f b hq hb
 obtain ⟨n, hn⟩ := nmd (f.code.length)
 have hn1 : 1 ≤ n := by rw [hn]; exact hb.fo.n.1
 have hn4 : n ≤ 4096 := by rw [hn]; exact hb.fo.n.2
 rw [← hn] at hKe
 -- the program's cells
 obtain ⟨dv, fv, epv, hd, hdl, hfr⟩ := hS.hpg
 have efv : fv = .slice (some ⟨pg, po, none⟩) nf fc := by
  simp only [Value.agg.injEq, Array.mk.injEq, List.cons.injEq, and_true] at epv
  exact epv.2.2.symm
 subst efv
 obtain ⟨y0, y1, cg, co, cc, y3, hri⟩ := rowF_cells hfr hb.fn (by omega)
 rw [← hn] at y3 hri
 have HCD : Hid (∀ w' (i : Nat) (x : IN), f.code[i]? = some x → KF w0 w' → w'.cell? ⟨pg, po + q * 4 + 3, none⟩ = some (.slice (some ⟨cg, co, none⟩) n cc) ∧ w'.cell? ⟨cg, co + i * 2, none⟩ = some (.int .i64 x.op) ∧ w'.cell? ⟨cg, co + i * 2 + 1, none⟩ = some (.int .i64 x.a)) := fun w' i x hx hw => by
  obtain ⟨z0, z1⟩ := rowI_cell hri hx
  exact ⟨hw.cell y3 id, hw.cell z0 id, hw.cell z1 id⟩
 have HLO : Hid (∀ w', KF w0 w' → w'.cell? ⟨pg, po + q * 4 + 1, none⟩ = some (.int .i64 f.l)) := fun w' hw => hw.cell y1 id
 have HAR : Hid (∀ (a : Nat) w', a < nf → KF w0 w' → w'.cell? ⟨pg, po + a * 4, none⟩ = some (.int .i64 (argOf p (a : Int))) ∧ 0 ≤ argOf p (a : Int) ∧ argOf p (a : Int) ≤ 16) := fun a w' ha hw => by
  have hlt : a < p.fns.length := by rw [← hS.hnf]; exact ha
  have hfa : p.fns[a]? = some p.fns[a] := List.getElem?_eq_getElem hlt
  have hfo := hall _ (List.mem_of_getElem? hfa)
  have e : argOf p (a : Int) = p.fns[a].a := by unfold argOf; rw [Int.toNat_natCast, hfa]; rfl
  rw [e]
  exact ⟨hw.cell (rowF_cells hfr hfa (by have := hfo.n.1; omega)).1 id, hfo.a⟩
 obtain ⟨hg', hc', ehv, HL⟩ := hS.hhh.look (by omega)
 cases ehv
 obtain ⟨u, hu0, hu1⟩ := HL w0 (Kept.refl _ _) q hqn
 rw [e1] at hu1
 obtain ⟨ug, uc, hus, _⟩ := own_look hu1 (show 0 < b.hs.length by rw [hF.len]; omega)
 rw [hF.len, ← hn] at hus
 subst hus
 have HHS : Hid (∀ w' (i : Nat), i < n → KF w0 w' → w'.cell? ⟨ug, i, none⟩ = some (.int .i64 (b.hs.getD i 0))) := fun w' i hi hw => hw.cell (own_int hu1 (by rw [hF.len, ← hn]) hi) id
 have HHU : Hid (∀ w', KF w0 w' → w'.cell? ⟨hg, q, none⟩ = some (.slice (some ⟨ug, 0, none⟩) n uc)) := fun w' hw => hw.cell hu0 id
 have HTP : Hid (∀ w', KF w0 w' → w'.cell? ⟨tg, q, none⟩ = some (.int .i64 (topP b))) := fun w' hw => by
  have h9 := (rowN_at hS.htt (by have := hS.hnf; simp; omega) hqn).1
  rw [e2] at h9
  exact hw.cell h9 id
 have HTR := hid_of (top_rng hb.ok hb.bd)
 have HLR := hid_of (loc_rng hb).2
 have HIH : Hid (∀ (i : Nat) (x : IN), f.code[i]? = some x → x.op = 17 → b.hs.getD i 0 ≠ -1 → ∃ a : Nat, x.a = (a : Int) ∧ a < nf ∧ (0 ≤ K a ∧ K a ≤ 64000) ∧ ∀ (w : World) (cs : List Int) (is : List Bool), Sm w0 w g gC gT gI gW nf #[.int .i64 mem, .slice dao nd dc, .slice (some ⟨pg, po, none⟩) nf fc, .slice (some ⟨hg, 0, none⟩) nf hc, .slice (some ⟨tg, 0, none⟩) nf tc, lvv, liv, .int .i64 0, .int .i64 0, .slice (some ⟨gC, 0, none⟩) nf nf, .slice (some ⟨gT, 0, none⟩) nf nf, .slice (some ⟨gI, 0, none⟩) nf nf, .slice (some ⟨gW, 0, none⟩) nf nf] cs ts is ws → KnC nf K cs is →
   Calls Tryz.prog 43 #[.pointer (some ⟨g, 0, none⟩), .int .i64 (a : Int)] w fun e w' => ∃ cs' is', e = .returned (.int .i64 (K a)) ∧ Sm w0 w' g gC gT gI gW nf #[.int .i64 mem, .slice dao nd dc, .slice (some ⟨pg, po, none⟩) nf fc, .slice (some ⟨hg, 0, none⟩) nf hc, .slice (some ⟨tg, 0, none⟩) nf tc, lvv, liv, .int .i64 0, .int .i64 0, .slice (some ⟨gC, 0, none⟩) nf nf, .slice (some ⟨gT, 0, none⟩) nf nf, .slice (some ⟨gI, 0, none⟩) nf nf, .slice (some ⟨gW, 0, none⟩) nf nf] cs' ts is' ws ∧ KnC nf K cs' is' ∧ Kept (fun k => k = gC ∨ k = gI) w w') := fun i x hx h17 hne => by
  have hi : i < f.code.length := (List.getElem?_eq_some_iff.1 hx).1
  have hm : x.a ∈ leadP bs q := by
   rw [calls_lead hS.hbs hqb, cnx_at hb.fn, e1, callsK_mem]
   exact ⟨i, x, hi, hx, h17, hne, rfl⟩
  have hr := lead_rng hS.hbs q hqb _ hm
  have ho := l3 q hq _ hm
  obtain ⟨a, ha⟩ : ∃ a : Nat, x.a = (a : Int) := ⟨x.a.toNat, by omega⟩
  have h9 := ih _ hm
  rw [ha, Int.toNat_natCast] at h9
  rw [ha] at ho
  refine ⟨a, ha, by have := hS.hnf; omega, hK.pos a ho, fun w cs is h1 h2 => ?_⟩
  have h8 := h9 w cs is h1 h2
  exact h8
 have HHR : Hid (∀ i, i < n → -1 ≤ b.hs.getD i 0 ∧ b.hs.getD i 0 ≤ 256) := fun i hi => hF.lo _ (getD_mem (by rw [hF.len, ← hn]; exact hi))
 have HN := hid_of hn
 have HQN := hid_of hqn
 have HKE := hid_of hKe
 have HKQ := hid_of hKq
 have HSM := hid_of hSm
 have HKN := hid_of hKn
 have HFL : Hid (f.l = f.l) := rfl
 obtain ⟨fl, hfl⟩ := nmd (f.l)
 rw [← hfl] at HLO HLR HKE
 obtain ⟨tp, htp⟩ := nmd (topP b)
 rw [← htp] at HTP HTR HKE
 have hK0 := hSm.kept
 obtain ⟨c0, c1, c2, c3, c4, c9, c10, c11, c12⟩ := look13 hSm.box
 obtain ⟨i0, i1⟩ := rowB_at hSm.ii hSm.ln.2.2.1 hqn
 obtain ⟨k0, k1⟩ := rowN_at hSm.cc hSm.ln.1 hqn
 have v0 := HTP.out w hK0
 have v1 := HHU.out w hK0
 clear ih l1 l2 l3 hq hql hqb hbl e1 e2 e3 hF hn64 hall hKq hKe hd hdl hfr epv y0 y1 y3 hri HL hu0 hu1 hb hn hS hK hSm hKn HFL hfl htp hK0 hno
 go_enter Tryz.func43, Tryz.ntmps43
 cases hI : is.getD q false with
 | true =>
  as_aux_lemma =>
   rw [hI] at i0
   have hkq : cs.getD q 0 = K q := HKN.out q HQN.out hI
   rw [hkq] at k0
   clear hI hkq HIH
   go_wp2_with fail
   go_ret
   exact ⟨cs, is, rfl, HSM.out, HKN.out, Kept.refl _ _⟩
 | false =>
  as_aux_lemma =>
   rw [hI] at i0
   clear hI k0 k1 c0 c1 c2 c9 c10 c12
   go_upto_region 5 with fail
   clear i0 i1 c3 c4 c11 v0 v1
   go_wp2_with fail
   go_loopw [5, 7] (fun mv iv wr => ∃ (k : Nat) (cs' : List Int) (is' : List Bool), k ≤ n ∧ mv = .int .i64 (mostK p f b.hs K tp k) ∧ iv = .int .i64 (k : Int) ∧ Hid (Sm w0 wr g gC gT gI gW nf #[.int .i64 mem, .slice dao nd dc, .slice (some ⟨pg, po, none⟩) nf fc, .slice (some ⟨hg, 0, none⟩) nf hc, .slice (some ⟨tg, 0, none⟩) nf tc, lvv, liv, .int .i64 0, .int .i64 0, .slice (some ⟨gC, 0, none⟩) nf nf, .slice (some ⟨gT, 0, none⟩) nf nf, .slice (some ⟨gI, 0, none⟩) nf nf, .slice (some ⟨gW, 0, none⟩) nf nf] cs' ts is' ws) ∧ Hid (KnC nf K cs' is') ∧ Hid (Kept (fun k => k = gC ∨ k = gI) w wr) ∧ Hid (0 ≤ mostK p f b.hs K tp k ∧ mostK p f b.hs K tp k ≤ 100000)) (fun _ iv _ => n - (intOf iv).toNat)
   case atStart => exact ⟨0, cs, is, by omega, rfl, rfl, HSM, HKN, Kept.refl _ _, by have := HTR.out; unfold Hid; rw [mostK]; omega⟩
   case round =>
    clear HSM HKN
    obtain ⟨k, cs', is', hk, rfl, rfl, HSM, HKN, HKW, HMR⟩ := hrel
    by_cases hlt : k < n
    ·as_aux_lemma =>
      have hltI : (k : Int) < (n : Int) := by omega
      obtain ⟨x, hx⟩ : ∃ x, f.code[k]? = some x := ⟨_, List.getElem?_eq_getElem (by rw [← HN.out]; exact hlt)⟩
      obtain ⟨d0, d1, d2⟩ := HCD.out wr k x hx HSM.out.kept
      obtain ⟨c0, c1, c2, c3, c4, c9, c10, c11, c12⟩ := look13 HSM.out.box
      have HCA : Hid (mostK p f b.hs K tp (k + 1) = if x.op = 17 ∧ b.hs.getD k 0 ≠ -1 then max2 (mostK p f b.hs K tp k) (b.hs.getD k 0 - argOf p x.a + K x.a.toNat) else mostK p f b.hs K tp k) := by
       unfold Hid
       rw [mostK, hx]
      have HLK2 : Hid (∀ w', KF w0 w' → w'.cell? ⟨ug, k, none⟩ = some (.int .i64 (b.hs.getD k 0))) := fun w' hw => HHS.out w' k hlt hw
      have HAI : Hid (x.op = 17 → b.hs.getD k 0 ≠ -1 → ∃ a : Nat, x.a = (a : Int) ∧ a < nf ∧ (0 ≤ K a ∧ K a ≤ 64000) ∧ ∀ (w : World) (cs : List Int) (is : List Bool), Sm w0 w g gC gT gI gW nf #[.int .i64 mem, .slice dao nd dc, .slice (some ⟨pg, po, none⟩) nf fc, .slice (some ⟨hg, 0, none⟩) nf hc, .slice (some ⟨tg, 0, none⟩) nf tc, lvv, liv, .int .i64 0, .int .i64 0, .slice (some ⟨gC, 0, none⟩) nf nf, .slice (some ⟨gT, 0, none⟩) nf nf, .slice (some ⟨gI, 0, none⟩) nf nf, .slice (some ⟨gW, 0, none⟩) nf nf] cs ts is ws → KnC nf K cs is →
         Calls Tryz.prog 43 #[.pointer (some ⟨g, 0, none⟩), .int .i64 (a : Int)] w fun e w' => ∃ cs' is', e = .returned (.int .i64 (K a)) ∧ Sm w0 w' g gC gT gI gW nf #[.int .i64 mem, .slice dao nd dc, .slice (some ⟨pg, po, none⟩) nf fc, .slice (some ⟨hg, 0, none⟩) nf hc, .slice (some ⟨tg, 0, none⟩) nf tc, lvv, liv, .int .i64 0, .int .i64 0, .slice (some ⟨gC, 0, none⟩) nf nf, .slice (some ⟨gT, 0, none⟩) nf nf, .slice (some ⟨gI, 0, none⟩) nf nf, .slice (some ⟨gW, 0, none⟩) nf nf] cs' ts is' ws ∧ KnC nf K cs' is' ∧ Kept (fun k => k = gC ∨ k = gI) w w') := HIH.out k x hx
      have HHK := hid_of (HHR.out k hlt)
      generalize x.op = xo at *
      generalize hxa : x.a = xa at *
      generalize b.hs.getD k 0 = ha at *
      have hb9 := heap_alloc_new wr (.cells #[.int .i64 xo, .int .i64 xa] 64)
      have hk9 : KF wr (wr.alloc (.cells #[.int .i64 xo, .int .i64 xa] 64)) := (Kept.refl _ _).alloc _
      have HB9 := hid_of hb9
      have HS2 := hid_of (HSM.out.same hk9)
      have HKW2 := hid_of (HKW.out.trans (hk9.mono (fun _ _ f => f.elim)))
      generalize hmk : mostK p f b.hs K tp k = mo at *
      generalize hmk1 : mostK p f b.hs K tp (k + 1) = mo1 at *
      have HM1 := hid_of hmk1
      clear hmk hmk1 hxa
      clear hx hb9 hk9 HSM HIH HCD HHS HHU HTP HKW HHR
      clear c3 c4 c9 c10 c11 c12
      go_upto_region 9 with fail
      clear d0 d1 d2 c0 c1 c2
      generalize wr.alloc (.cells #[.int .i64 xo, .int .i64 xa] 64) = w2 at *
      generalize wr.heap.size = gx at *
      obtain ⟨s0, s1, _⟩ := look2 HB9.out
      have u0 := HLK2.out w2 HS2.out.kept
      by_cases h17 : xo = 17
      ·by_cases hm1 : ha = -1
       ·as_aux_lemma =>
         have HMO : Hid (mo1 = mo) := by
          unfold Hid
          rw [HCA.out, if_neg (fun h => h.2 hm1)]
         subst h17 hm1
         clear HCA HAI
         go_wp2
         go_roundw
         case rel => exact ⟨k + 1, cs', is', by omega, by rw [HM1.out, HMO.out], by go_num, HS2, HKN, HKW2, by rw [HM1.out, HMO.out]; exact HMR⟩
         case measure => simp [intOf]; omega
       ·as_aux_lemma =>
         obtain ⟨a, ea, hanf, hKa, HCL0⟩ := HAI.out h17 hm1
         have HCL := hid_of HCL0
         subst ea h17
         have haI : (a : Int) < (nf : Int) := by omega
         obtain ⟨r0, r1, r2⟩ := HAR.out a w2 hanf HS2.out.kept
         have hhk := HHK.out
         obtain ⟨ar, har⟩ := nmd (argOf p (a : Int))
         obtain ⟨ka, hka⟩ := nmd (K a)
         have HMO : Hid (mo1 = max2 mo (ha - ar + ka)) := by
          unfold Hid
          rw [HCA.out, if_pos ⟨rfl, hm1⟩, har, hka, Int.toNat_natCast]
         rw [← har] at r0 r1 r2
         rw [← hka] at HCL hKa
         have HRA : Hid (∀ w', Kept (fun k => k = gC ∨ k = gI) w2 w' → w'.cell? ⟨g, 0, none⟩ = some (.int .i64 mem) ∧ w'.cell? ⟨g, 1, none⟩ = some (.slice dao nd dc) ∧ w'.cell? ⟨g, 2, none⟩ = some (.slice (some ⟨pg, po, none⟩) nf fc) ∧ w'.cell? ⟨ug, k, none⟩ = some (.int .i64 ha) ∧ w'.cell? ⟨gx, 0, none⟩ = some (.int .i64 17) ∧ w'.cell? ⟨gx, 1, none⟩ = some (.int .i64 (a : Int)) ∧ w'.cell? ⟨pg, po + a * 4, none⟩ = some (.int .i64 ar)) := fun w' hw => by
          obtain ⟨⟨a1, a2, a3, a4⟩, _, b1, b2, b3, b4⟩ := HS2.out.apart
          have hw0 : KF w0 w' := HS2.out.kept.step hw (fun i hi e => by omega)
          obtain ⟨c0, c1, c2, _⟩ := look13 (box_kept hw HS2.out.box (fun e => by omega))
          obtain ⟨s0, s1, _⟩ := look2 (box_kept hw HB9.out (fun e => by
           rcases e with e | e
           ·exact own_box2 HS2.out.cc HB9.out (by decide) (by rw [e]; rfl)
           ·exact own_box2 HS2.out.ii HB9.out (by decide) (by rw [e]; rfl)))
          have r9 := (HAR.out a w' hanf hw0).1
          rw [← har] at r9
          exact ⟨c0, c1, c2, HLK2.out w' hw0, s0, s1, r9⟩
         have hm2 : (ha == -1) = false := by simpa using hm1
         have hm3 : (ha != -1) = true := by simpa using hm1
         have hw1 : IntKind.i64.wrap (ha - ar) = ha - ar := by simp [IntKind.wrap, IntKind.bits, IntKind.signed]; omega
         have hw2 : IntKind.i64.wrap (ha - ar + ka) = ha - ar + ka := by simp [IntKind.wrap, IntKind.bits, IntKind.signed]; omega
         have HHKK := hid_of hhk
         have HARR := hid_of (And.intro r1 r2)
         have HKAA := hid_of hKa
         clear HCA HAI har hka HCL0 hm1 r0 r1 r2 hKa hhk
         go_upto_region 10 with fail
         clear s0 s1 u0 hm2 hm3
         refine wp_region_held_drew (S := fun w' => Kept (fun k => k = gC ∨ k = gI) w2 w') (by kernel_rfl) ((Kept.refl _ _).drew) (fun hHeld => ?_)
         have hKd : KF w2 w2.drew := (Kept.refl _ _).drew
         generalize w2.drew = wd at *
         iterate 18
          refine tkn (v := ?_) 0 rfl ?_ ?_; rotate_left 1
          ·intro w hSw; obtain ⟨z0, z1, z2, z3, z4, z5, z6⟩ := HRA.out w hSw; go_simp; try with_reducible rfl
          try simp only [Act.put, tdy]
         refine rdy 18 rfl (fun K hK => ?_)
         go_simp
         refine (HCL.out wd cs' is' (HS2.out.same hKd) HKN.out).mono ?_
         rintro e w3 ⟨cs2, is2, rfl, hS3, hK3, hk3⟩
         have hkk := (hKd.mono (fun _ _ f => f.elim)).trans hk3
         refine hK.out _ _ hkk (fun hHeld => ?_)
         clear hK K
         try simp only [Act.put, tdy]
         iterate 2
          refine tkn (v := ?_) 19 rfl ?_ ?_; rotate_left 1
          ·intro w hSw; go_simp; try with_reducible rfl
          try simp only [Act.put, tdy]
         refine wpAnyH_done (by kernel_rfl) ?_ _
         have HS3 := hid_of hS3
         have HK3 := hid_of hK3
         have HKW3 := hid_of (HKW2.out.trans hkk)
         clear hS3 hK3 hk3 hkk hHeld hKd HRA HCL HS2 HB9 HKW2 HKN
         by_cases hgt : mo < ha - ar + ka
         ·have HM2 : Hid (mo1 = ha - ar + ka) := by
           unfold Hid
           rw [HMO.out]
           unfold max2
           rw [if_pos hgt]
          go_wp2
          go_roundw
          case rel => exact ⟨k + 1, cs2, is2, by omega, by rw [HM1.out, HM2.out], by go_num, HS3, HK3, HKW3, by have h1 := HHKK.out; have h2 := HARR.out; have h3 := HKAA.out; have h4 := HMR.out; rw [HM1.out, HM2.out]; unfold Hid; omega⟩
          case measure => simp [intOf]; omega
         ·have HM2 : Hid (mo1 = mo) := by
           unfold Hid
           rw [HMO.out]
           unfold max2
           rw [if_neg hgt]
          go_wp2
          go_roundw
          case rel => exact ⟨k + 1, cs2, is2, by omega, by rw [HM1.out, HM2.out], by go_num, HS3, HK3, HKW3, by rw [HM1.out, HM2.out]; exact HMR⟩
          case measure => simp [intOf]; omega
      ·as_aux_lemma =>
        have HMO : Hid (mo1 = mo) := by
         unfold Hid
         rw [HCA.out, if_neg (fun h => h17 h.1)]
        have h17b : (xo != 17) = true := by simp; exact h17
        clear HCA HAI
        go_wp2
        go_roundw
        case rel => exact ⟨k + 1, cs', is', by omega, by rw [HM1.out, HMO.out], by go_num, HS2, HKN, HKW2, by rw [HM1.out, HMO.out]; exact HMR⟩
        case measure => simp [intOf]; omega
    ·as_aux_lemma =>
      have e : k = n := by omega
      subst e
      have hltI : ¬ ((k : Int) < (k : Int)) := by omega
      obtain ⟨c0, c1, c2, c3, c4, c9, c10, c11, c12⟩ := look13 HSM.out.box
      obtain ⟨i0, i1⟩ := rowB_at HSM.out.ii HSM.out.ln.2.2.1 HQN.out
      have HS2 := hid_of (HSM.out.setI q true)
      have hk2 := kept_set wr gI q (.bool true)
      have HKW2 : Hid (Kept (fun k => k = gC ∨ k = gI) w (wr.setCell ⟨gI, q, none⟩ (.bool true))) := HKW.out.trans (hk2.mono (fun _ _ e => .inr e))
      generalize mostK p f b.hs K tp k = mo at *
      clear HIH HCD HHS HHU HTP HHR HAR c0 c1 c2 c3 c4 c9 c10 c12 hk2
      go_upto_region 14 with fail
      clear c11 i0 i1 hltI
      generalize wr.setCell ⟨gI, q, none⟩ (.bool true) = w2 at *
      obtain ⟨kq, hkq⟩ := nmd (K q)
      rw [← hkq] at HKE HKQ
      have HKQE := hid_of hkq
      have hke := HKE.out
      have HRA : Hid (∀ w', Kept (fun k => k = gC ∨ k = gI) w2 w' → w'.cell? ⟨g, 0, none⟩ = some (.int .i64 mem) ∧ w'.cell? ⟨g, 1, none⟩ = some (.slice dao nd dc) ∧ w'.cell? ⟨g, 2, none⟩ = some (.slice (some ⟨pg, po, none⟩) nf fc) ∧ w'.cell? ⟨g, 9, none⟩ = some (.slice (some ⟨gC, 0, none⟩) nf nf) ∧ w'.cell? ⟨pg, po + q * 4 + 1, none⟩ = some (.int .i64 fl)) := fun w' hw => by
       obtain ⟨⟨a1, a2, a3, a4⟩, _, b1, b2, b3, b4⟩ := HS2.out.apart
       have hw0 : KF w0 w' := HS2.out.kept.step hw (fun i hi e => by omega)
       obtain ⟨c0, c1, c2, c3, c4, c9, _⟩ := look13 (box_kept hw HS2.out.box (fun e => by omega))
       exact ⟨c0, c1, c2, c9, HLO.out w' hw0⟩
      have hw1 : IntKind.i64.wrap (1 + fl) = 1 + fl := by have := HLR.out; simp [IntKind.wrap, IntKind.bits, IntKind.signed]; omega
      have hw2 : IntKind.i64.wrap (1 + fl + mo) = kq := by have := HLR.out; have := HMR.out; rw [hke]; simp [IntKind.wrap, IntKind.bits, IntKind.signed]; omega
      clear hke hkq
      refine wp_region_held_drew (S := fun w' => Kept (fun k => k = gC ∨ k = gI) w2 w') (by kernel_rfl) ((Kept.refl _ _).drew) (fun hHeld => ?_)
      have hKd : KF w2 w2.drew := (Kept.refl _ _).drew
      generalize w2.drew = wd at *
      iterate 18
       refine tkn (v := ?_) 0 rfl ?_ ?_; rotate_left 1
       ·intro w hSw; obtain ⟨z0, z1, z2, z3, z4⟩ := HRA.out w hSw; go_simp; try with_reducible rfl
       try simp only [Act.put, tdy]
      have hS3 := HS2.out.same hKd
      obtain ⟨k0, k1⟩ := rowN_at hS3.cc hS3.ln.1 HQN.out
      have hk4 := kept_set wd gC q (.int .i64 kq)
      refine rdy 18 rfl (fun K hK => ?_)
      go_simp
      refine hK.out _ _ ((hKd.mono (fun _ _ f => f.elim)).trans (hk4.mono (fun _ _ e => .inl e))) (fun hHeld => ?_)
      clear hK K
      try simp only [Act.put, tdy]
      refine wpAnyH_done (by kernel_rfl) ?_ _
      have hS4 := hS3.setC q kq
      have HS4 := hid_of hS4
      have HKW4 := hid_of (HKW2.out.trans hHeld)
      have HK4 : Hid (KnC nf K (cs'.set q kq) (is'.set q true)) := fun i hi ht => by
       by_cases e : q = i
       ·subst e
        rw [getD_set_eq _ (by rw [hS3.ln.1]; exact hi)]
        exact HKQE.out
       ·rw [getD_set_ne _ e]
        refine HKN.out i hi ?_
        rw [getD_set _ _ _ (by have := hS3.ln.2.2.1; rw [List.length_set] at this; omega), if_neg e] at ht
        exact ht
      obtain ⟨c0, c1, c2, c3, c4, c9, c10, c11, c12⟩ := look13 hS4.box
      obtain ⟨k2, k3⟩ := rowN_at hS4.cc hS4.ln.1 HQN.out
      rw [getD_set_eq _ (by rw [hS3.ln.1]; exact HQN.out)] at k2
      clear hS3 hS4 hHeld hKd k0 k1 hk4 HRA HS2 HKN HSM hw1 hw2 c0 c1 c2 c3 c4 c10 c11 c12
      generalize wd.setCell ⟨gC, q, none⟩ (.int .i64 kq) = w4 at *
      go_wp2_with fail
      go_ret
      exact ⟨_, _, (by rw [HKQE.out]; rfl), HS4.out, HK4.out, HKW4.out⟩
def knownD (out : List Int) : List Int → Int → Option Int
 | [], n => some n
 | y :: l, n => if out.getD y.toNat 0 = -1 then none else knownD out l (max2 n (out.getD y.toNat 0))
theorem knownD_none (out : List Int) : ∀ (l : List Int) (n : Int), knownD out l n = none → ∃ y ∈ l, out.getD y.toNat 0 = -1
 | [], n, h => by cases h
 | y :: l, n, h => by
  rw [knownD] at h
  split at h
  ·rename_i e; exact ⟨y, by simp, e⟩
  ·obtain ⟨z, hz, e⟩ := knownD_none out l _ h
   exact ⟨z, by simp [hz], e⟩
theorem knownD_some (out R : List Int) : ∀ (l : List Int) (n m : Int), (∀ y ∈ l, out.getD y.toNat 0 = -1 ∨ out.getD y.toNat 0 = R.getD y.toNat 0) → knownD out l n = some m → m = costM R l n ∧ ∀ y ∈ l, out.getD y.toNat 0 ≠ -1
 | [], n, m, _, h => by cases h; exact ⟨rfl, fun y hy => by simp at hy⟩
 | y :: l, n, m, hr, h => by
  rw [knownD] at h
  split at h
  ·cases h
  ·rename_i e
   have e2 : out.getD y.toNat 0 = R.getD y.toNat 0 := by
    rcases hr y (by simp) with h1 | h1
    ·exact absurd h1 e
    ·exact h1
   obtain ⟨h1, h2⟩ := knownD_some out R l _ m (fun z hz => hr z (by simp [hz])) h
   refine ⟨?_, fun z hz => ?_⟩
   ·rw [h1, e2]; rfl
   ·rcases List.mem_cons.1 hz with rfl | hz
    ·exact e
    ·exact h2 z hz
def KnR (out l : List Int) (w : World) (e : Ending) (w' : World) : Prop := w' = w ∧ match knownD out l 0 with
 | some n => e = .returned (.tuple #[.int .i64 n, .bool true])
 | none => e = .returned (.tuple #[.int .i64 0, .bool false])
set_option maxHeartbeats 8000000 in
theorem known_ref (w : World) (B g c m : Nat) (out : List Int) (hout : w.ownsRow B 3 1 (.slice (some ⟨g, 0, none⟩) m c) m (ints out)) (hml : out.length = m) (lv : Value) (l : List Int) (B2 : Nat) (hl : OwnN w B2 lv l) (hr : ∀ y ∈ l, 0 ≤ y ∧ y < m) (hll : l.length ≤ 10000) :
  Calls Tryz.prog 94 #[.slice (some ⟨g, 0, none⟩) m c, lv] w (KnR out l w) := by
 obtain ⟨ao, lc, hlv⟩ := ownsRow_shape hl
 subst hlv
 have HC : Hid (∀ i, i < l.length → ∃ g2, ao = some ⟨g2, 0, none⟩ ∧ w.cell? ⟨g2, i, none⟩ = some (.int .i64 (l.getD i 0))) := fun i hi => by
  obtain ⟨g2, c2, e, h9⟩ := own_look hl hi
  cases e
  exact ⟨g2, rfl, h9⟩
 have HO : Hid (∀ i, i < m → w.cell? ⟨g, i, none⟩ = some (.int .i64 (out.getD i 0))) := fun i hi => (rowN_at hout hml hi).1
 have HR := hid_of hr
 obtain ⟨n, hn⟩ := nmd (l.length)
 have HN := hid_of hn
 rw [← hn] at HC ⊢
 rw [← hn] at hll
 have HM : Hid (n ≤ 10000) := hll
 clear hout hml hl hr hn hll
 go_enter Tryz.func94, Tryz.ntmps94
 go_wp2
 go_loopw [6, 7] (fun nv iv wr => ∃ (k : Nat) (mx : Int), k ≤ n ∧ nv = .int .i64 mx ∧ iv = .int .i64 (k : Int) ∧ wr = w ∧ Hid (knownD out l 0 = knownD out (l.drop k) mx)) (fun _ iv _ => n - (intOf iv).toNat)
 case atStart => exact ⟨0, 0, by omega, rfl, rfl, rfl, rfl⟩
 case round =>
  obtain ⟨k, mx, hk, rfl, rfl, hwr, HD⟩ := hrel
  have hwr2 := hwr.symm
  clear hwr
  subst hwr2
  have hn9 := HM.out
  by_cases hlt : k < n
  ·have hltI : (k : Int) < (n : Int) := by omega
   obtain ⟨g2, eg, d0⟩ := HC.out k hlt
   subst eg
   have hkl : k < l.length := by rw [← HN.out]; exact hlt
   have hy := HR.out (l.getD k 0) (getD_mem hkl)
   have HD2 : Hid (knownD out l 0 = if out.getD (l.getD k 0).toNat 0 = -1 then none else knownD out (l.drop (k + 1)) (max2 mx (out.getD (l.getD k 0).toNat 0))) := by
    unfold Hid
    rw [HD.out, List.drop_eq_getElem_cons hkl, knownD]
    have e : l[k] = l.getD k 0 := by simp [List.getD, List.getElem?_eq_getElem hkl]
    rw [e]
   obtain ⟨y, hyn⟩ : ∃ z : Nat, l.getD k 0 = (z : Int) := ⟨(l.getD k 0).toNat, by omega⟩
   rw [hyn] at d0 hy HD2
   rw [Int.toNat_natCast] at HD2
   have hyI := hy.2
   have d1 := HO.out y (by omega)
   generalize out.getD y 0 = oy at *
   clear hyn hy HD HC HO HR hkl
   by_cases hm1 : oy = -1
   ·have HD3 : Hid (knownD out l 0 = none) := by unfold Hid; rw [HD2.out, if_pos hm1]
    subst hm1
    clear HD2
    go_wp2
    refine bodyPost_ret (results_tmp2 (by rfl) _ _ _) rfl ?_
    unfold KnR
    rw [HD3.out]
    exact ⟨rfl, rfl⟩
   ·have HD3 : Hid (knownD out l 0 = knownD out (l.drop (k + 1)) (max2 mx oy)) := by unfold Hid; rw [HD2.out, if_neg hm1]
    have hm2 : (oy == -1) = false := by simpa using hm1
    clear HD2 hm1
    by_cases hgt : mx < oy
    ·have HD4 : Hid (knownD out l 0 = knownD out (l.drop (k + 1)) oy) := by unfold Hid; rw [HD3.out]; unfold max2; rw [if_pos hgt]
     clear HD3
     go_wp2
     go_roundw
     case rel => exact ⟨k + 1, oy, by omega, rfl, by go_num, trivial, HD4⟩
     case measure => simp [intOf]; omega
    ·have HD4 : Hid (knownD out l 0 = knownD out (l.drop (k + 1)) mx) := by unfold Hid; rw [HD3.out]; unfold max2; rw [if_neg hgt]
     clear HD3
     go_wp2
     go_roundw
     case rel => exact ⟨k + 1, mx, by omega, rfl, by go_num, trivial, HD4⟩
     case measure => simp [intOf]; omega
  ·have e : k = n := by omega
   have HD4 : Hid (knownD out l 0 = some mx) := by
    unfold Hid
    rw [HD.out, List.drop_eq_nil_of_le (by rw [← HN.out]; omega)]
    rfl
   have hltI : ¬ ((k : Int) < (n : Int)) := by omega
   clear HD HC HO HR
   go_wp2
   refine bodyPost_ret (results_tmp2 (by rfl) _ _ _) rfl ?_
   unfold KnR
   rw [HD4.out]
   exact ⟨rfl, rfl⟩
end Go.Proofs.YtcaadgcfceommaaGreat

/-
  Files filled and cut.
-/
import Derived.Test.YtmkfjdfpcjkmnaaVh
import Derived.Test.YtmkfjdfpcjkmnaaVd
namespace Go.Proofs.Ytmkfjdfpcjkmnaa
open Go.RowKit
set_option linter.unusedVariables false
set_option linter.unusedSimpArgs false
set_option maxRecDepth 100000

/-- A file's box. -/
def boxF (f : Fi) : Array Value := #[.string ⟨f.p.toArray⟩, .string ⟨f.nm.toArray⟩, .bool false, f.dv]
theorem Fs.setU {w : World} {s : Nat} {σ : FSt} (H : Fs w s σ) (u : Int) : Fs (w.setCell ⟨s, 3, none⟩ (.int .i64 u)) s { σ with ub := u } :=
  H.setS (kept_set w ⟨s, 3, none⟩ _) (set_block w s 3 _ 76 (0, 0) H.blk _) rfl rfl rfl rfl rfl rfl
theorem upF (f : Fi) (dv' : Value) (xs' : List Int) : cF.val ⟨f.p, f.nm, dv', xs'⟩ = .agg #[.string ⟨f.p.toArray⟩, .string ⟨f.nm.toArray⟩, .bool false, dv'] := rfl
set_option maxHeartbeats 4000000 in
theorem fill_any {w : World} {s : Nat} {σ : FSt} (H : Fs w s σ) (p : By) (f : Fi) (hf : look σ.fs p = some f) (pos : Nat) (ys : List Int) (ab ao c : Nat) (hsrc : ∀ j u, (ints ys)[j]? = some u → w.cell? ⟨ab, ao + j, none⟩ = some u) (hyc : ys.length ≤ c) (h0 : 0 < ys.length) (hab : ¬ σ.own s ab) (hlim : pos + ys.length ≤ 1048576) (hu0 : 0 ≤ σ.ub) (hu1 : σ.ub ≤ 1099511627776) :
    Calls Try.prog 45 #[.pointer (some ⟨s, 0, none⟩), .string ⟨p.toArray⟩, .int .i64 pos, .slice (some ⟨ab, ao, none⟩) ys.length c] w fun e w' => e = .returned (.tuple #[]) ∧ ∃ dv' b, (∀ g, dv'.ownBlock = some g → σ.own s g ∨ w.heap.size ≤ g) ∧ Fs w' s { σ with fs := lays σ.fs p ⟨f.p, f.nm, dv', layB f.xs pos ys⟩ b, ub := σ.ub - f.xs.length + (layB f.xs pos ys).length } ∧ Kept (fun k => σ.own s k) w w' := by
  obtain ⟨ao0, c0, hdv, hown, hxl⟩ := H.data hf
  have hablt : ab < w.heap.size := by
    have h9 : 0 < (ints ys).length := by rw [ints_len]; exact h0
    exact World.block_lt_of_cell? _ _ (hsrc 0 _ (List.getElem?_eq_getElem h9))
  obtain ⟨a1, ha1⟩ : ∃ q : ByteArray, q = ⟨f.p.toArray⟩ := ⟨_, rfl⟩
  obtain ⟨a2, ha2⟩ : ∃ q : ByteArray, q = ⟨f.nm.toArray⟩ := ⟨_, rfl⟩
  obtain ⟨sp, hsp⟩ : ∃ q : ByteArray, q = ⟨p.toArray⟩ := ⟨_, rfl⟩
  have hfown : ∀ g, f.dv.ownBlock = some g → σ.own s g := fun g hg => by
    obtain ⟨e, he, _, rfl⟩ := look_there hf
    exact .inr (.inr (.inr (.inr (.inl (rowsF_mem he hg)))))
  have hs_lt := heap_lt H.blk
  have hg0 := H.getF hf hdv
  rw [← ha1, ← ha2, ← hsp] at hg0
  have hc6 := H.cell 6 (v := .map (some σ.fm)) rfl
  -- the box
  have hk1 : Kept (fun _ => False) w (w.alloc (.cells #[.string a1, .string a2, .bool false, .slice ao0 f.xs.length c0] 99)) := (Kept.refl _ w).alloc _
  have hb1 : (w.alloc (.cells #[.string a1, .string a2, .bool false, .slice ao0 f.xs.length c0] 99)).heap[w.heap.size]? = some (.cells #[.string a1, .string a2, .bool false, .slice ao0 f.xs.length c0] 99 (0, 0)) := alloc_new _ _ rfl
  have hz1 : (w.alloc (.cells #[.string a1, .string a2, .bool false, .slice ao0 f.xs.length c0] 99)).heap.size = w.heap.size + 1 := by simp
  have HF := hid_of H
  have HSRC := hid_of hsrc
  have HAB := hid_of hab
  have HFO := hid_of hfown
  have HOW := hid_of hown
  have HFf := hid_of hf
  have HDV := hid_of hdv
  have HA1 := hid_of ha1
  have HA2 := hid_of ha2
  have HSP := hid_of hsp
  rw [← hsp]
  clear H hsrc hab hfown hown hf hdv ha1 ha2 hsp
  generalize hLL : f.xs.length = L at *
  have HLL := hid_of hLL
  clear hLL
  go_enter Try.func45, Try.ntmps45
  go_upto_region 1 with fail
  generalize w.alloc (.cells #[.string a1, .string a2, .bool false, .slice ao0 L c0] 99) = w1 at *
  have HK1 := hid_of hk1
  have HB1 := hid_of hb1
  have hF1 := HF.out.same hk1
  have c31 : w1.cell? ⟨s, 3, none⟩ = some (.int .i64 σ.ub) := hF1.cell 3 rfl
  have f31 : w1.frozen? ⟨s, 3, none⟩ = false := frozen_block _ _ 3 _ _ hF1.blk
  have hsq : s ≠ w.heap.size := by omega
  have HSB : Hid (∀ w', Kept (fun k => k = s) w1 w' → w'.cell? ⟨w.heap.size, 3, none⟩ = some (.slice ao0 L c0)) := fun w' hw => hw.cell ((cell_block _ _ 3 _ _ _ hb1).trans rfl) (fun e => hsq e.symm)
  have wr1 : IntKind.i64.wrap (σ.ub - (L : Int)) = σ.ub - (L : Int) := by rw [IntKind.wrap_i64]; omega
  have hkd1 : Kept (fun k => k = s) w1 w1.drew := (Kept.refl _ w1).drew
  have HKS : Hid (Kept (fun k => k = s) w1 ((w1.setCell ⟨s, 3, none⟩ (.int .i64 (σ.ub - (L : Int)))).drew)) := Kept.setCell (S := fun k => k = s) (p := ⟨s, 3, none⟩) (Kept.refl _ w1) (.inr rfl) _ |>.drew
  have HF2 : Hid (Fs ((w1.setCell ⟨s, 3, none⟩ (.int .i64 (σ.ub - (L : Int)))).drew) s { σ with ub := σ.ub - (L : Int) }) := (hF1.setU _).same ((Kept.refl _ _).drew)
  clear hk1 hb1 hg0 hc6
  refine wp_region_held_drew (S := fun w' => Kept (fun k => k = s) w1 w') (by kernel_rfl) hkd1 (fun hHeld => ?_)
  iterate 4
    refine tkn (v := ?_) 0 rfl ?_ ?_; rotate_left 1
    · intro w hSw; go_simp; try with_reducible rfl
    try simp only [Act.put, tdy]
  iterate 3
    refine tkn (v := ?_) 5 rfl ?_ ?_; rotate_left 1
    · intro w hSw; have s1 := HSB.out w hSw; go_simp; try with_reducible rfl
    try simp only [Act.put, tdy]
  refine wpAnyH_ready (rs := [4]) (by kernel_rfl) (by simp) ?_
  refine AllReadyH.cons rfl (fun K hK => ?_) AllReadyH.nil
  go_simp
  refine hK.out _ _ (by assumption) (fun hHeld => ?_)
  clear hK K
  try simp only [Act.put, tdy]
  iterate 4
    refine tkn (v := ?_) 8 rfl ?_ ?_; rotate_left 1
    · intro w hSw; go_simp; try with_reducible rfl
    try simp only [Act.put, tdy]
  refine wpAnyH_ready (rs := [12]) (by kernel_rfl) (by simp) ?_
  refine AllReadyH.cons rfl (fun K hK => ?_) AllReadyH.nil
  go_simp
  refine hK.out _ _ HKS.out (fun hHeld => ?_)
  clear hK K
  try simp only [Act.put, tdy]
  refine wpAnyH_done (by kernel_rfl) ?_ _
  clear hHeld hkd1 hF1 c31 f31 HSB
  generalize (w1.setCell ⟨s, 3, none⟩ (.int .i64 (σ.ub - (L : Int)))).drew = w2 at *
  have HB2 : Hid (w2.heap[w.heap.size]? = some (.cells #[.string a1, .string a2, .bool false, .slice ao0 L c0] 99 (0, 0))) := (HKS.out.block _ (by omega) (fun e => hsq e.symm)).trans HB1.out
  have hk02 : Kept (fun k => k = s) w w2 := (HK1.out.mono (fun _ _ f => f.elim)).trans HKS.out
  have HK02 := hid_of hk02
  have habs : ab ≠ s := fun e => HAB.out (.inl e)
  have HLAY := hid_of (lay_any w.heap.size a1 a2 (.slice ao0 L c0) f.xs ys pos ab ao c w2 HB2.out (by
      rw [HLL.out]
      have h9 := HOW.out
      rw [HDV.out] at h9
      exact hk02.ownsRow h9 (fun g hg e => HF.out.not_s.2.2.2.1 (by
        subst e
        obtain ⟨e', he', _, h8⟩ := look_there HFf.out
        exact rowsF_mem he' (by rw [h8, HDV.out]; exact hg)))) (fun j u hu => hk02.cell (HSRC.out j u hu) (fun e => habs e)) hyc h0 (fun e => HAB.out (HFO.out ab (by rw [HDV.out]; exact e))) (by omega) hlim (by rw [HLL.out]; exact hxl))
  generalize hM : ys.length = m at *
  have HM := hid_of hM
  clear hM hk02 HKS
  go_wp2_with fail
  refine HLAY.out.mono ?_
  rintro e w3 ⟨rfl, dv', hb3, ho3, hbk3, hk3⟩
  obtain ⟨ao3, c3, hv3⟩ := row_slice ho3
  obtain ⟨zs, hzs⟩ : ∃ zs, zs = layB f.xs pos ys := ⟨_, rfl⟩
  rw [← hzs] at ho3 hv3
  obtain ⟨L3, hL3⟩ : ∃ k, k = zs.length := ⟨_, rfl⟩
  rw [← hL3] at hv3 ho3
  have HZS := hid_of hzs
  have HL3 := hid_of hL3
  have hL3b : L3 ≤ 2097152 := by
    rw [hL3, hzs, layB]
    simp
    have := HLL.out
    have := HM.out
    omega
  subst hv3
  have hs3 : s ≠ w.heap.size ∧ ¬ (Value.slice ao0 L c0).ownBlock = some s := ⟨hsq, fun e => HF.out.not_s.2.2.2.1 (by
    obtain ⟨e', he', _, h8⟩ := look_there HFf.out
    exact rowsF_mem he' (by rw [h8, HDV.out]; exact e))⟩
  have hbs3 : w3.heap[s]? = some (.cells { σ with ub := σ.ub - (L : Int) }.cells 76 (0, 0)) := (hk3.block s (heap_lt HF2.out.blk) (fun e => e.elim hs3.1 hs3.2)).trans HF2.out.blk
  have c33 : w3.cell? ⟨s, 3, none⟩ = some (.int .i64 (σ.ub - (L : Int))) := (cell_block _ _ 3 _ _ _ hbs3).trans rfl
  have f33 : w3.frozen? ⟨s, 3, none⟩ = false := frozen_block _ _ 3 _ _ hbs3
  have HSB : Hid (∀ w', Kept (fun k => k = s) w3 w' → w'.cell? ⟨w.heap.size, 3, none⟩ = some (.slice ao3 L3 c3)) := fun w' hw => hw.cell ((cell_block _ _ 3 _ _ _ hb3).trans rfl) (fun e => hsq e.symm)
  have wr3 : IntKind.i64.wrap (σ.ub - (L : Int) + (L3 : Int)) = σ.ub - (L : Int) + (L3 : Int) := by rw [IntKind.wrap_i64]; omega
  have hkd3 : Kept (fun k => k = s) w3 w3.drew := (Kept.refl _ w3).drew
  have HKS3 : Hid (Kept (fun k => k = s) w3 ((w3.setCell ⟨s, 3, none⟩ (.int .i64 (σ.ub - (L : Int) + (L3 : Int)))).drew)) := Kept.setCell (S := fun k => k = s) (p := ⟨s, 3, none⟩) (Kept.refl _ w3) (.inr rfl) _ |>.drew
  have HBS4 : Hid (((w3.setCell ⟨s, 3, none⟩ (.int .i64 (σ.ub - (L : Int) + (L3 : Int)))).drew).heap[s]? = some (.cells { σ with ub := σ.ub - (L : Int) + (L3 : Int) }.cells 76 (0, 0))) := set_block w3 s 3 _ 76 (0, 0) hbs3 _
  have HK3 := hid_of hk3
  have HB3 := hid_of hb3
  have HO3 := hid_of ho3
  have HBK3 := hid_of hbk3
  clear hk3 hb3 ho3 hbk3 hbs3 HLAY hzs hL3
  go_upto_region 3 with fail
  refine wp_region_held_drew (S := fun w' => Kept (fun k => k = s) w3 w') (by kernel_rfl) hkd3 (fun hHeld => ?_)
  iterate 4
    refine tkn (v := ?_) 0 rfl ?_ ?_; rotate_left 1
    · intro w hSw; go_simp; try with_reducible rfl
    try simp only [Act.put, tdy]
  iterate 3
    refine tkn (v := ?_) 5 rfl ?_ ?_; rotate_left 1
    · intro w hSw; have s1 := HSB.out w hSw; go_simp; try with_reducible rfl
    try simp only [Act.put, tdy]
  refine wpAnyH_ready (rs := [4]) (by kernel_rfl) (by simp) ?_
  refine AllReadyH.cons rfl (fun K hK => ?_) AllReadyH.nil
  go_simp
  refine hK.out _ _ (by assumption) (fun hHeld => ?_)
  clear hK K
  try simp only [Act.put, tdy]
  iterate 4
    refine tkn (v := ?_) 8 rfl ?_ ?_; rotate_left 1
    · intro w hSw; go_simp; try with_reducible rfl
    try simp only [Act.put, tdy]
  refine wpAnyH_ready (rs := [12]) (by kernel_rfl) (by simp) ?_
  refine AllReadyH.cons rfl (fun K hK => ?_) AllReadyH.nil
  go_simp
  refine hK.out _ _ HKS3.out (fun hHeld => ?_)
  clear hK K
  try simp only [Act.put, tdy]
  refine wpAnyH_done (by kernel_rfl) ?_ _
  clear hHeld hkd3 c33 f33 HSB
  generalize (w3.setCell ⟨s, 3, none⟩ (.int .i64 (σ.ub - (L : Int) + (L3 : Int)))).drew = w4 at *
  have hK24 : Kept (fun k => k = s ∨ k = w.heap.size ∨ (Value.slice ao0 L c0).ownBlock = some k) w2 w4 := (HK3.out.mono (fun k _ e => .inr e)).trans (HKS3.out.mono (fun k _ e => .inl e))
  obtain ⟨cf, hmf2⟩ := HF2.out.mf
  have hnm : ∀ g, (Value.slice ao0 L c0).ownBlock = some g → g ∈ rowsF σ.fs := fun g hg => by
    obtain ⟨e', he', _, h8⟩ := look_there HFf.out
    exact rowsF_mem he' (by rw [h8, HDV.out]; exact hg)
  have hfm : σ.fm ≠ s ∧ σ.fm ≠ w.heap.size ∧ ¬ (Value.slice ao0 L c0).ownBlock = some σ.fm := by
    obtain ⟨c9, h9⟩ := HF.out.mf
    exact ⟨fun e => HF.out.not_s.1 e.symm, by have := heap_lt h9; omega, fun e => (HF.out.not_m h9).2.1 (hnm _ e)⟩
  have hmf4 : w4.heap[σ.fm]? = some (.map (σ.fs.map cF.ent).toArray cf) := (hK24.block _ (heap_lt hmf2) (fun e => e.elim hfm.1 (fun e => e.elim hfm.2.1 hfm.2.2))).trans hmf2
  have hkd4 : Kept (fun k => k = σ.fm) w4 w4.drew := (Kept.refl _ w4).drew
  have hmf4d : w4.drew.heap[σ.fm]? = some (.map (σ.fs.map cF.ent).toArray cf) := hmf4
  obtain ⟨cf', hup⟩ := run_lay fitsF w4.drew σ.fm cf σ.fs hmf4d p ⟨f.p, f.nm, .slice ao3 L3 c3, zs⟩
  rw [upF, ← HA1.out, ← HA2.out, show cF.enc p = .string ⟨p.toArray⟩ from rfl, ← HSP.out] at hup
  have hb4 : w4.heap[w.heap.size]? = some (.cells #[.string a1, .string a2, .bool false, .slice ao3 L3 c3] 99 (0, 0)) := (HKS3.out.block _ (heap_lt HB3.out) (fun e => hsq e.symm)).trans HB3.out
  have c64 : w4.cell? ⟨s, 6, none⟩ = some (.map (some σ.fm)) := (cell_block _ _ 6 _ _ _ HBS4.out).trans rfl
  have HSM : Hid (∀ w', Kept (fun k => k = σ.fm) w4 w' → w'.cell? ⟨s, 6, none⟩ = some (.map (some σ.fm)) ∧ w'.cell? ⟨w.heap.size, 0, none⟩ = some (.string a1) ∧ w'.cell? ⟨w.heap.size, 1, none⟩ = some (.string a2) ∧ w'.cell? ⟨w.heap.size, 2, none⟩ = some (.bool false) ∧ w'.cell? ⟨w.heap.size, 3, none⟩ = some (.slice ao3 L3 c3)) := fun w' hw =>
    ⟨hw.cell c64 (fun e => hfm.1 e.symm), hw.cell ((cell_block _ _ 0 _ _ _ hb4).trans rfl) (fun e => hfm.2.1 e.symm), hw.cell ((cell_block _ _ 1 _ _ _ hb4).trans rfl) (fun e => hfm.2.1 e.symm), hw.cell ((cell_block _ _ 2 _ _ _ hb4).trans rfl) (fun e => hfm.2.1 e.symm), hw.cell ((cell_block _ _ 3 _ _ _ hb4).trans rfl) (fun e => hfm.2.1 e.symm)⟩
  have HKM : Hid (Kept (fun k => k = σ.fm) w4 (World.over w4.drew σ.fm (.map ((lays σ.fs p ⟨f.p, f.nm, .slice ao3 L3 c3, zs⟩ cf).map cF.ent).toArray cf'))) := hkd4.trans (kept_over _ _ _)
  have HGR : Hid (∀ g, (Value.slice ao3 L3 c3).ownBlock = some g → σ.own s g ∨ w.heap.size ≤ g) := fun g hg => by
    have := HK02.out.size
    rcases HBK3.out with e | ⟨g', e, hle⟩
    · exact .inl (HFO.out g (by rw [HDV.out]; exact e.symm.trans hg))
    · have e' := e.symm.trans hg
      cases e'
      exact .inr (by omega)
  have HEND : Hid (Fs (World.over w4.drew σ.fm (.map ((lays σ.fs p ⟨f.p, f.nm, .slice ao3 L3 c3, zs⟩ cf).map cF.ent).toArray cf')) s { σ with fs := lays σ.fs p ⟨f.p, f.nm, .slice ao3 L3 c3, zs⟩ cf, ub := σ.ub - (L : Int) + (zs.length : Int) } ∧ Kept (fun k => σ.own s k) w (World.over w4.drew σ.fm (.map ((lays σ.fs p ⟨f.p, f.nm, .slice ao3 L3 c3, zs⟩ cf).map cF.ent).toArray cf'))) := by
    have hs4 : w.heap.size + 1 ≤ w2.heap.size := by have := HK02.out.size; have := heap_lt HB2.out; omega
    have hk25 : Kept (fun k => k = s ∨ k = σ.fm ∨ (k = w.heap.size ∨ (Value.slice ao0 L c0).ownBlock = some k ∨ w2.heap.size ≤ k)) w2 (World.over w4.drew σ.fm (.map ((lays σ.fs p ⟨f.p, f.nm, .slice ao3 L3 c3, zs⟩ cf).map cF.ent).toArray cf')) := (hK24.mono (fun k _ e => by
      rcases e with e | e | e
      · exact .inl e
      · exact .inr (.inr (.inl e))
      · exact .inr (.inr (.inr (.inl e))))).trans (HKM.out.mono (fun k _ e => .inr (.inl e)))
    have hdq : ∀ g, (Value.slice ao3 L3 c3).ownBlock = some g → g = w.heap.size ∨ (Value.slice ao0 L c0).ownBlock = some g ∨ w2.heap.size ≤ g := fun g hg => by
      rcases HBK3.out with e | ⟨g', e, hle⟩
      · rw [e] at hg; exact .inr (.inl hg)
      · rw [e] at hg; cases hg; exact .inr (.inr hle)
    constructor
    · have h5 := Fs.setF HF2.out p ⟨f.p, f.nm, .slice ao3 L3 c3, zs⟩ cf (σ.ub - (L : Int) + (L3 : Int)) (fun k => k = w.heap.size ∨ (Value.slice ao0 L c0).ownBlock = some k ∨ w2.heap.size ≤ k) (fun q hq ho => by
          rcases hq with hq | hq | hq
          · have ho' : σ.own s q := ho
            have := HF.out.lt ho'
            omega
          · exact ⟨f, HFf.out, by rw [HDV.out]; exact hq⟩
          · have := HF2.out.lt ho
            omega) hk25 ((HKM.out.block s (heap_lt HBS4.out) (fun e => hfm.1 e.symm)).trans HBS4.out) ⟨cf', over_same _ _ _ (heap_lt hmf4d)⟩ ?_ ?_ hdq
      · rw [← HL3.out]
        exact h5
      · have ho4 : w4.ownsRow 0 5 1 (.slice ao3 L3 c3) L3 (ints zs) := HKS3.out.ownsRow HO3.out (fun g hg e => by
          rcases hdq g hg with h | h | h
          · omega
          · exact hs3.2 (e ▸ h)
          · have := heap_lt HF2.out.blk
            omega)
        have h6 : (World.over w4.drew σ.fm (.map ((lays σ.fs p ⟨f.p, f.nm, .slice ao3 L3 c3, zs⟩ cf).map cF.ent).toArray cf')).ownsRow 0 5 1 (.slice ao3 L3 c3) L3 (ints zs) := HKM.out.ownsRow ho4 (fun g hg e => by
          subst e
          rcases hdq _ hg with h | h | h
          · exact hfm.2.1 h
          · exact hfm.2.2 h
          · have h9 : σ.fm < w2.heap.size := heap_lt hmf2
            omega)
        show World.ownsRow _ 0 5 1 _ zs.length (ints zs)
        rw [← HL3.out]
        exact h6
      · show zs.length ≤ 1048576
        rw [HZS.out, layB]
        simp
        have := HLL.out
        have := HM.out
        omega
    · refine HK02.out.mono (fun k _ e => .inl e) |>.step hk25 (fun k hk e => ?_)
      rcases e with e | e | e | e | e
      · exact .inl e
      · exact .inr (.inl e)
      · omega
      · exact HFO.out k (by rw [HDV.out]; exact e)
      · omega
  have HUP := hid_of hup
  clear hmf4 hmf4d hb4 c64 hK24 hmf2
  go_upto_region 4 with fail
  refine wp_region_held_drew (S := fun w' => Kept (fun k => k = σ.fm) w4 w') (by kernel_rfl) hkd4 (fun hHeld => ?_)
  iterate 6
    refine tkn (v := ?_) 0 rfl ?_ ?_; rotate_left 1
    · intro w hSw; obtain ⟨s1, s2, s3, s4, s5⟩ := HSM.out w hSw; go_simp; try with_reducible rfl
    try simp only [Act.put, tdy]
  have hup' := HUP.out
  refine wpAnyH_ready (rs := [6]) (by kernel_rfl) (by simp) ?_
  refine AllReadyH.cons rfl (fun K hK => ?_) AllReadyH.nil
  go_simp
  refine hK.out _ _ HKM.out (fun hHeld => ?_)
  clear hK K
  try simp only [Act.put, tdy]
  refine wpAnyH_done (by kernel_rfl) ?_ _
  clear hHeld
  go_wp2
  refine bodyPost_end (results_none rfl _ _ _) rfl ⟨rfl, .slice ao3 L3 c3, cf, HGR.out, ?_, HEND.out.2⟩
  rw [← HZS.out]
  exact HEND.out.1
end Go.Proofs.Ytmkfjdfpcjkmnaa

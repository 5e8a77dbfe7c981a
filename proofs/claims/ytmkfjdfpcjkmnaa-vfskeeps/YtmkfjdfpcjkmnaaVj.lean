/-
  Files cut; handles closed; bytes written.
-/
import Derived.Test.YtmkfjdfpcjkmnaaVi
namespace Go.Proofs.Ytmkfjdfpcjkmnaa
open Go.RowKit
set_option linter.unusedVariables false
set_option linter.unusedSimpArgs false
set_option maxRecDepth 100000

theorem lays_nil {w : World} : w.ownsRow 0 5 1 (.slice none 0 0) 0 [] := ⟨rfl, .inl ⟨rfl, rfl⟩⟩
set_option maxHeartbeats 4000000 in
theorem fcut_any {w : World} {s : Nat} {σ : FSt} (H : Fs w s σ) (p : By) (f : Fi) (hf : look σ.fs p = some f) (hu0 : 0 ≤ σ.ub) (hu1 : σ.ub ≤ 1099511627776) :
    Calls Try.prog 42 #[.pointer (some ⟨s, 0, none⟩), .string ⟨p.toArray⟩] w fun e w' => e = .returned (.tuple #[]) ∧ ∃ b, Fs w' s { σ with fs := lays σ.fs p ⟨f.p, f.nm, .slice none 0 0, []⟩ b, ub := σ.ub - f.xs.length } ∧ Kept (fun k => σ.own s k) w w' := by
  obtain ⟨ao0, c0, hdv, hown, hxl⟩ := H.data hf
  obtain ⟨a1, ha1⟩ : ∃ q : ByteArray, q = ⟨f.p.toArray⟩ := ⟨_, rfl⟩
  obtain ⟨a2, ha2⟩ : ∃ q : ByteArray, q = ⟨f.nm.toArray⟩ := ⟨_, rfl⟩
  obtain ⟨sp, hsp⟩ : ∃ q : ByteArray, q = ⟨p.toArray⟩ := ⟨_, rfl⟩
  have hs_lt := heap_lt H.blk
  have hg0 := H.getF hf hdv
  rw [← ha1, ← ha2, ← hsp] at hg0
  have hc6 := H.cell 6 (v := .map (some σ.fm)) rfl
  have hk1 : Kept (fun _ => False) w (w.alloc (.cells #[.string a1, .string a2, .bool false, .slice ao0 f.xs.length c0] 99)) := (Kept.refl _ w).alloc _
  have hb1 : (w.alloc (.cells #[.string a1, .string a2, .bool false, .slice ao0 f.xs.length c0] 99)).heap[w.heap.size]? = some (.cells #[.string a1, .string a2, .bool false, .slice ao0 f.xs.length c0] 99 (0, 0)) := alloc_new _ _ rfl
  have hz1 : (w.alloc (.cells #[.string a1, .string a2, .bool false, .slice ao0 f.xs.length c0] 99)).heap.size = w.heap.size + 1 := by simp
  have HF := hid_of H
  have HFf := hid_of hf
  have HA1 := hid_of ha1
  have HA2 := hid_of ha2
  have HSP := hid_of hsp
  rw [← hsp]
  clear H hf hdv hown ha1 ha2 hsp
  generalize hLL : f.xs.length = L at *
  have HLL := hid_of hLL
  clear hLL
  go_enter Try.func42, Try.ntmps42
  go_upto_region 1 with fail
  generalize w.alloc (.cells #[.string a1, .string a2, .bool false, .slice ao0 L c0] 99) = w1 at *
  have HK1 := hid_of hk1
  have HB1 := hid_of hb1
  have hF1 := HF.out.same hk1
  have c31 : w1.cell? ⟨s, 3, none⟩ = some (.int .i64 σ.ub) := hF1.cell 3 rfl
  have f31 : w1.frozen? ⟨s, 3, none⟩ = false := frozen_block _ _ 3 _ _ hF1.blk
  have hsq : s ≠ w.heap.size := by omega
  have HSB : Hid (∀ w', Kept (fun k => k = s) w1 w' → w'.cell? ⟨w.heap.size, 3, none⟩ = some (.slice ao0 L c0)) := fun w' hw => hw.cell ((cell_block _ _ 3 _ _ _ hb1).trans rfl) (fun e => hsq e.symm)
  have wr1 : IntKind.i64.wrap (σ.ub - (L : Int)) = σ.ub - (L : Int) := by rw [IntKind.wrap_i64]; omega
  have hkd1 : Kept (fun k => k = s) w1 w1.drew := (Kept.refl _ w1).drew
  have HKS : Hid (Kept (fun k => k = s) w1 ((w1.setCell ⟨s, 3, none⟩ (.int .i64 (σ.ub - (L : Int)))).drew)) := Kept.setCell (S := fun k => k = s) (p := ⟨s, 3, none⟩) (Kept.refl _ w1) (.inr rfl) _ |>.drew
  have HF2 : Hid (Fs ((w1.setCell ⟨s, 3, none⟩ (.int .i64 (σ.ub - (L : Int)))).drew) s { σ with ub := σ.ub - (L : Int) }) := (hF1.setU _).same ((Kept.refl _ _).drew)
  clear hk1 hb1 hg0 hc6
  refine wp_region_held_drew (S := fun w' => Kept (fun k => k = s) w1 w') (by kernel_rfl) hkd1 (fun hHeld => ?_)
  iterate 4
    refine tkn (v := ?_) 0 rfl ?_ ?_; rotate_left 1
    · intro w hSw; go_simp; try with_reducible rfl
    try simp only [Act.put, tdy]
  iterate 3
    refine tkn (v := ?_) 5 rfl ?_ ?_; rotate_left 1
    · intro w hSw; have s1 := HSB.out w hSw; go_simp; try with_reducible rfl
    try simp only [Act.put, tdy]
  refine wpAnyH_ready (rs := [4]) (by kernel_rfl) (by simp) ?_
  refine AllReadyH.cons rfl (fun K hK => ?_) AllReadyH.nil
  go_simp
  refine hK.out _ _ (by assumption) (fun hHeld => ?_)
  clear hK K
  try simp only [Act.put, tdy]
  iterate 4
    refine tkn (v := ?_) 8 rfl ?_ ?_; rotate_left 1
    · intro w hSw; go_simp; try with_reducible rfl
    try simp only [Act.put, tdy]
  refine wpAnyH_ready (rs := [12]) (by kernel_rfl) (by simp) ?_
  refine AllReadyH.cons rfl (fun K hK => ?_) AllReadyH.nil
  go_simp
  refine hK.out _ _ HKS.out (fun hHeld => ?_)
  clear hK K
  try simp only [Act.put, tdy]
  refine wpAnyH_done (by kernel_rfl) ?_ _
  clear hHeld hkd1 hF1 c31 f31 HSB
  generalize (w1.setCell ⟨s, 3, none⟩ (.int .i64 (σ.ub - (L : Int)))).drew = w2 at *
  have hb2 : w2.heap[w.heap.size]? = some (.cells #[.string a1, .string a2, .bool false, .slice ao0 L c0] 99 (0, 0)) := (HKS.out.block _ (by omega) (fun e => hsq e.symm)).trans HB1.out
  have c2 : w2.cell? ⟨w.heap.size, 3, none⟩ = some (.slice ao0 L c0) := (cell_block _ _ 3 _ _ _ hb2).trans rfl
  have f2 : w2.frozen? ⟨w.heap.size, 3, none⟩ = false := frozen_block _ _ 3 _ _ hb2
  have hb4 : (w2.setCell ⟨w.heap.size, 3, none⟩ (.slice none 0 0)).heap[w.heap.size]? = some (.cells #[.string a1, .string a2, .bool false, .slice none 0 0] 99 (0, 0)) := set_block w2 w.heap.size 3 _ 99 (0, 0) hb2 _
  have hK24 : Kept (fun k => k = w.heap.size) w2 (w2.setCell ⟨w.heap.size, 3, none⟩ (.slice none 0 0)) := kept_set w2 ⟨w.heap.size, 3, none⟩ _
  have hK02 : Kept (fun k => k = s) w w2 := (HK1.out.mono (fun _ _ f => f.elim)).trans HKS.out
  have hnq : ∀ k, σ.own s k → k ≠ w.heap.size := fun k hk e => by have := HF.out.lt hk; omega
  have hF4 : Fs (w2.setCell ⟨w.heap.size, 3, none⟩ (.slice none 0 0)) s { σ with ub := σ.ub - (L : Int) } := HF2.out.kept hK24 (fun k hk => hnq k hk)
  have hfm : σ.fm ≠ s ∧ σ.fm ≠ w.heap.size := ⟨fun e => HF.out.not_s.1 e.symm, hnq _ (.inr (.inl rfl))⟩
  go_upto_region 3 with fail
  clear c2 f2
  generalize w2.setCell ⟨w.heap.size, 3, none⟩ (.slice none 0 0) = w4 at *
  obtain ⟨cf, hmf4⟩ := hF4.mf
  have hkd4 : Kept (fun k => k = σ.fm) w4 w4.drew := (Kept.refl _ w4).drew
  have hmf4d : w4.drew.heap[σ.fm]? = some (.map (σ.fs.map cF.ent).toArray cf) := hmf4
  obtain ⟨cf', hup⟩ := run_lay fitsF w4.drew σ.fm cf σ.fs hmf4d p ⟨f.p, f.nm, .slice none 0 0, []⟩
  rw [upF, ← HA1.out, ← HA2.out, show cF.enc p = .string ⟨p.toArray⟩ from rfl, ← HSP.out] at hup
  have c64 : w4.cell? ⟨s, 6, none⟩ = some (.map (some σ.fm)) := hF4.cell 6 rfl
  have HSM : Hid (∀ w', Kept (fun k => k = σ.fm) w4 w' → w'.cell? ⟨s, 6, none⟩ = some (.map (some σ.fm)) ∧ w'.cell? ⟨w.heap.size, 0, none⟩ = some (.string a1) ∧ w'.cell? ⟨w.heap.size, 1, none⟩ = some (.string a2) ∧ w'.cell? ⟨w.heap.size, 2, none⟩ = some (.bool false) ∧ w'.cell? ⟨w.heap.size, 3, none⟩ = some (.slice none 0 0)) := fun w' hw =>
    ⟨hw.cell c64 (fun e => hfm.1 e.symm), hw.cell ((cell_block _ _ 0 _ _ _ hb4).trans rfl) (fun e => hfm.2 e.symm), hw.cell ((cell_block _ _ 1 _ _ _ hb4).trans rfl) (fun e => hfm.2 e.symm), hw.cell ((cell_block _ _ 2 _ _ _ hb4).trans rfl) (fun e => hfm.2 e.symm), hw.cell ((cell_block _ _ 3 _ _ _ hb4).trans rfl) (fun e => hfm.2 e.symm)⟩
  have HKM : Hid (Kept (fun k => k = σ.fm) w4 (World.over w4.drew σ.fm (.map ((lays σ.fs p ⟨f.p, f.nm, .slice none 0 0, []⟩ cf).map cF.ent).toArray cf'))) := hkd4.trans (kept_over _ _ _)
  have HEND : Hid (Fs (World.over w4.drew σ.fm (.map ((lays σ.fs p ⟨f.p, f.nm, .slice none 0 0, []⟩ cf).map cF.ent).toArray cf')) s { σ with fs := lays σ.fs p ⟨f.p, f.nm, .slice none 0 0, []⟩ cf, ub := σ.ub - (L : Int) } ∧ Kept (fun k => σ.own s k) w (World.over w4.drew σ.fm (.map ((lays σ.fs p ⟨f.p, f.nm, .slice none 0 0, []⟩ cf).map cF.ent).toArray cf'))) := by
    constructor
    · exact Fs.setF hF4 p ⟨f.p, f.nm, .slice none 0 0, []⟩ cf (σ.ub - (L : Int)) (fun _ => False) (fun q hq _ => hq.elim) (HKM.out.mono (fun k _ e => .inr (.inl e))) ((HKM.out.block s (heap_lt hF4.blk) (fun e => hfm.1 e.symm)).trans hF4.blk) ⟨cf', over_same _ _ _ (heap_lt hmf4d)⟩ lays_nil (by simp) (fun q hq => by cases hq)
    · refine ((hK02.mono (fun k _ e => .inl e)).step hK24 (fun k hk e => by omega)).trans (HKM.out.mono (fun k _ e => .inr (.inl e)))
  have HUP := hid_of hup
  clear hmf4 hmf4d hb4 c64 hK24 hF4 hb2
  refine wp_region_held_drew (S := fun w' => Kept (fun k => k = σ.fm) w4 w') (by kernel_rfl) hkd4 (fun hHeld => ?_)
  iterate 6
    refine tkn (v := ?_) 0 rfl ?_ ?_; rotate_left 1
    · intro w hSw; obtain ⟨s1, s2, s3, s4, s5⟩ := HSM.out w hSw; go_simp; try with_reducible rfl
    try simp only [Act.put, tdy]
  have hup' := HUP.out
  refine wpAnyH_ready (rs := [6]) (by kernel_rfl) (by simp) ?_
  refine AllReadyH.cons rfl (fun K hK => ?_) AllReadyH.nil
  go_simp
  refine hK.out _ _ HKM.out (fun hHeld => ?_)
  clear hK K
  try simp only [Act.put, tdy]
  refine wpAnyH_done (by kernel_rfl) ?_ _
  clear hHeld
  go_wp2
  exact bodyPost_end (results_none rfl _ _ _) rfl ⟨rfl, cf, HEND.out.1, HEND.out.2⟩

theorem Fs.setO {w : World} {s : Nat} {σ : FSt} (H : Fs w s σ) (u : Int) : Fs (w.setCell ⟨s, 5, none⟩ (.int .i64 u)) s { σ with uo := u } :=
  H.setS (kept_set w ⟨s, 5, none⟩ _) (set_block w s 5 _ 76 (0, 0) H.blk _) rfl rfl rfl rfl rfl rfl
set_option maxHeartbeats 4000000 in
theorem close_ok {w : World} {s : Nat} {σ : FSt} (H : Fs w s σ) (h : Int) (x : Ha) (hx : look σ.hs h = some x) (hu0 : 0 ≤ σ.uo) (hu1 : σ.uo ≤ 1099511627776) :
    Calls Try.prog 15 #[.pointer (some ⟨s, 0, none⟩), .int .i64 h] w fun e w' => e = .returned (.int .i64 0) ∧ Fs w' s { σ with hs := drops σ.hs h, uo := σ.uo - 1 } ∧ Kept (fun k => σ.own s k) w w' := by
  have HC := hid_of (isopen_any H h)
  rw [hx, Option.isSome_some] at HC
  have HF := hid_of H
  have hl : (look σ.hs h).isSome = true := by rw [hx]; rfl
  have HL := hid_of hl
  clear H hx hl
  go_enter Try.func15, Try.ntmps15
  go_wp2_with fail
  refine HC.out.mono ?_
  rintro e w1 ⟨rfl, hk1⟩
  have hF1 := HF.out.same hk1
  obtain ⟨cf, hmh⟩ := hF1.mh
  have hdel : (Builtin.delete_ #[74, 3] 0 #[.map (some σ.hm), .int .i64 h]).run Try.prog w1 = _ := run_drop fitsH w1 σ.hm cf σ.hs hmh h HL.out 3 0
  have hk2 : Kept (fun k => k = σ.hm) w1 (World.over w1 σ.hm (.map ((drops σ.hs h).map cH.ent).toArray cf)) := kept_over _ _ _
  have hF2 : Fs (World.over w1 σ.hm (.map ((drops σ.hs h).map cH.ent).toArray cf)) s { σ with hs := drops σ.hs h } := hF1.setH hk2 (drops σ.hs h) ⟨cf, over_same _ _ _ (heap_lt hmh)⟩ (hF1.kh.sublist (drops_keys σ.hs h))
  have c8 := hF1.cell 8 (v := .map (some σ.hm)) rfl
  have c5 := hF2.cell 5 (v := .int .i64 σ.uo) rfl
  have f5 : (World.over w1 σ.hm (.map ((drops σ.hs h).map cH.ent).toArray cf)).frozen? ⟨s, 5, none⟩ = false := frozen_block _ _ 5 _ _ hF2.blk
  have wr1 : IntKind.i64.wrap (σ.uo - 1) = σ.uo - 1 := by rw [IntKind.wrap_i64]; omega
  have HE : Hid (Fs ((World.over w1 σ.hm (.map ((drops σ.hs h).map cH.ent).toArray cf)).setCell ⟨s, 5, none⟩ (.int .i64 (σ.uo - 1))) s { σ with hs := drops σ.hs h, uo := σ.uo - 1 } ∧ Kept (fun k => σ.own s k) w ((World.over w1 σ.hm (.map ((drops σ.hs h).map cH.ent).toArray cf)).setCell ⟨s, 5, none⟩ (.int .i64 (σ.uo - 1)))) :=
    ⟨hF2.setO _, Kept.setCell (p := ⟨s, 5, none⟩) ((hk1.mono (fun _ _ f => f.elim)).trans (hk2.mono (fun k _ e => .inr (.inr (.inr (.inl e)))))) (.inr (.inl rfl)) _⟩
  clear hk1 hF1 hmh hk2 hF2 HC
  go_wp2
  exact bodyPost_ret (v := .int .i64 0) (by simp [results, Try.results15, go_sem]) rfl ⟨rfl, HE.out⟩
end Go.Proofs.Ytmkfjdfpcjkmnaa

/-
  Where bytes go: target, fits, May.
-/
import Derived.Test.YtmkfjdfpcjkmnaaVc
namespace Go.Proofs.Ytmkfjdfpcjkmnaa
open Go.RowKit
set_option linter.unusedVariables false
set_option linter.unusedSimpArgs false
set_option maxRecDepth 100000

/-- Where bytes go that are written by a handle of a file with so many. -/
def tgt (x : Ha) (ln : Nat) : Int := if x.md = 3 then (ln : Int) else x.pl
def Ha.cells (x : Ha) : Array Value := #[.string ⟨x.p.toArray⟩, .int .i64 x.pl, .int .i64 x.md]
set_option maxHeartbeats 2000000 in
theorem target_any {w : World} {s : Nat} {σ : FSt} (H : Fs w s σ) (x : Ha) (f : Fi) (hf : look σ.fs x.p = some f) :
    Calls Try.prog 44 #[.pointer (some ⟨s, 0, none⟩), .agg x.cells] w fun e w' => e = .returned (.int .i64 (tgt x f.xs.length)) ∧ Kept (fun _ => False) w w' := by
  have HF := hid_of H
  obtain ⟨ao, c, hv, _, hl⟩ := H.data hf
  have HD := hid_of (fun (W : World) (hW : Kept (fun _ => False) w W) => (H.same hW).getF hf hv)
  unfold tgt Ha.cells
  obtain ⟨xp, hxp⟩ : ∃ q : ByteArray, q = ⟨x.p.toArray⟩ := ⟨_, rfl⟩
  rw [← hxp] at HD
  obtain ⟨a1, ha1⟩ : ∃ q : ByteArray, q = ⟨f.p.toArray⟩ := ⟨_, rfl⟩
  obtain ⟨a2, ha2⟩ : ∃ q : ByteArray, q = ⟨f.nm.toArray⟩ := ⟨_, rfl⟩
  rw [← ha1, ← ha2] at HD
  rw [← hxp]
  generalize x.pl = pl at *
  generalize f.xs.length = ln at *
  generalize x.md = md at *
  have hfld := fun W => field99 W a1 a2 false ao ln c
  clear H hf hv hxp ha1 ha2
  by_cases h3 : md = 3
  · subst h3
    rw [if_pos rfl]
    go_enter Try.func44, Try.ntmps44
    go_upto_region 2 with fail
    have hK2 : Kept (fun _ => False) w (w.alloc (.cells #[.string xp, .int .i64 pl, .int .i64 3] 82)) := (Kept.refl _ w).alloc _
    have hb2 : (w.alloc (.cells #[.string xp, .int .i64 pl, .int .i64 3] 82)).heap[w.heap.size]? = some (.cells #[.string xp, .int .i64 pl, .int .i64 3] 82 (0, 0)) := alloc_new _ _ rfl
    generalize w.alloc (.cells #[.string xp, .int .i64 pl, .int .i64 3] 82) = w2 at *
    have HS8 : Hid (∀ w', Kept (fun _ => False) w2 w' → w'.cell? ⟨s, 6, none⟩ = some (.map (some σ.fm)) ∧ w'.cell? ⟨w.heap.size, 0, none⟩ = some (.string xp) ∧ _) := fun w' hw =>
      ⟨(HF.out.same (hK2.trans hw)).cell 6 rfl, hw.cell ((cell_block _ _ 0 _ _ _ hb2).trans rfl) (fun f => f), HD.out w' (hK2.trans hw)⟩
    have HK2 := hid_of hK2
    clear hK2 hb2 HD
    refine wp_region_held_drew (S := fun w' => Kept (fun _ => False) w2 w') (by kernel_rfl) ((Kept.refl _ _).drew) (fun hHeld => ?_)
    iterate 10
      refine tkn (v := ?_) 0 rfl ?_ ?_; rotate_left 1
      · intro w hSw; obtain ⟨s1, s2, s3⟩ := HS8.out w hSw; go_simp; try with_reducible rfl
      try simp only [Act.put, tdy]
    refine wpAnyH_done (by kernel_rfl) ?_ _
    have HK3 : Hid (Kept (fun _ => False) w w2.drew) := HK2.out.drew
    clear hHeld
    go_wp2
    exact bodyPost_ret (v := .int .i64 (ln : Int)) (by simp [results, Try.results44, go_sem]) rfl ⟨rfl, HK3.out⟩
  · rw [if_neg h3]
    go_enter Try.func44, Try.ntmps44
    go_wp2
    exact bodyPost_ret (v := .int .i64 pl) (by simp [results, Try.results44, go_sem]) rfl ⟨rfl, (Kept.refl _ w).alloc _⟩

set_option maxHeartbeats 2000000 in
theorem fits_ok {w : World} {s : Nat} {σ : FSt} (H : Fs w s σ) (x : Ha) (f : Fi) (hf : look σ.fs x.p = some f) (n : Int) (hn : 0 ≤ n) (ht : 0 ≤ tgt x f.xs.length) (h1 : tgt x f.xs.length + n ≤ 1048576) (h2 : tgt x f.xs.length + n - f.xs.length ≤ σ.qb - σ.ub) (h3 : 0 ≤ σ.ub) (h4 : σ.qb ≤ 67108864) (h5 : σ.ub ≤ σ.qb) :
    Calls Try.prog 58 #[.pointer (some ⟨s, 0, none⟩), .agg x.cells, .int .i64 n] w fun e w' => e = .returned (.bool true) ∧ Kept (fun _ => False) w w' := by
  have HF := hid_of H
  obtain ⟨ao, c, hv, _, hl⟩ := H.data hf
  have HD := hid_of (fun (W : World) (hW : Kept (fun _ => False) w W) => (H.same hW).getF hf hv)
  have HT := hid_of (fun (W : World) (hW : Kept (fun _ => False) w W) => target_any (H.same hW) x f hf)
  unfold Ha.cells at *
  obtain ⟨xp, hxp⟩ : ∃ q : ByteArray, q = ⟨x.p.toArray⟩ := ⟨_, rfl⟩
  rw [← hxp] at HD
  obtain ⟨a1, ha1⟩ : ∃ q : ByteArray, q = ⟨f.p.toArray⟩ := ⟨_, rfl⟩
  obtain ⟨a2, ha2⟩ : ∃ q : ByteArray, q = ⟨f.nm.toArray⟩ := ⟨_, rfl⟩
  rw [← ha1, ← ha2] at HD
  rw [← hxp] at HT
  rw [← hxp]
  generalize tgt x f.xs.length = tg at *
  generalize f.xs.length = ln at *
  generalize x.pl = pl at *
  generalize x.md = md at *
  have hfld := fun W => field99 W a1 a2 false ao ln c
  have hK2 : Kept (fun _ => False) w (w.alloc (.cells #[.string xp, .int .i64 pl, .int .i64 md] 82)) := (Kept.refl _ w).alloc _
  have hb2 : (w.alloc (.cells #[.string xp, .int .i64 pl, .int .i64 md] 82)).heap[w.heap.size]? = some (.cells #[.string xp, .int .i64 pl, .int .i64 md] 82 (0, 0)) := alloc_new _ _ rfl
  have HT2 := hid_of (HT.out _ hK2)
  have HK2 := hid_of hK2
  have HB2 := hid_of hb2
  clear H hf hv hxp ha1 ha2 hK2 hb2 HT
  go_enter Try.func58, Try.ntmps58
  go_wp2_with fail
  refine HT2.out.mono ?_
  rintro e w1 ⟨rfl, hk1⟩
  have hK3 := HK2.out.trans hk1
  have HS8 : Hid (∀ w', Kept (fun _ => False) w1 w' → w'.cell? ⟨s, 6, none⟩ = some (.map (some σ.fm)) ∧ w'.cell? ⟨w.heap.size, 0, none⟩ = some (.string xp) ∧ _) := fun w' hw =>
    ⟨(HF.out.same (hK3.trans hw)).cell 6 rfl, (hk1.trans hw).cell ((cell_block _ _ 0 _ _ _ HB2.out).trans rfl) (fun f => f), HD.out w' (hK3.trans hw)⟩
  have HS5 : Hid (∀ w', Kept (fun _ => False) w1 w' → w'.cell? ⟨s, 0, none⟩ = some (.int .i64 σ.qb) ∧ w'.cell? ⟨s, 3, none⟩ = some (.int .i64 σ.ub)) := fun w' hw =>
    ⟨(HF.out.same (hK3.trans hw)).cell 0 rfl, (HF.out.same (hK3.trans hw)).cell 3 rfl⟩
  have HK3 := hid_of hK3
  have wr1 : IntKind.i64.wrap (1048576 - tg) = 1048576 - tg := by rw [IntKind.wrap_i64]; omega
  have wr2 : IntKind.i64.wrap (tg + n) = tg + n := by rw [IntKind.wrap_i64]; omega
  have wr3 : IntKind.i64.wrap (tg + n - ln) = tg + n - ln := by rw [IntKind.wrap_i64]; omega
  have wr4 : IntKind.i64.wrap (σ.qb - σ.ub) = σ.qb - σ.ub := by rw [IntKind.wrap_i64]; omega
  have hn1 : ¬ (1048576 - tg < n) := by omega
  clear hk1 hK3 HT2 HD
  go_upto_region 4 with fail
  refine wp_region_held_drew (S := fun w' => Kept (fun _ => False) w1 w') (by kernel_rfl) ((Kept.refl _ _).drew) (fun hHeld => ?_)
  iterate 14
    refine tkn (v := ?_) 0 rfl ?_ ?_; rotate_left 1
    · intro w hSw; obtain ⟨s1, s2, s3⟩ := HS8.out w hSw; go_simp; try with_reducible rfl
    try simp only [Act.put, tdy]
  refine wpAnyH_done (by kernel_rfl) ?_ _
  clear hHeld
  have HK4 : Hid (Kept (fun _ => False) w1 w1.drew) := (Kept.refl _ _).drew
  go_upto_region 5 with fail
  refine wp_region_held_drew (S := fun w' => Kept (fun _ => False) w1 w') (by kernel_rfl) (HK4.out.drew) (fun hHeld => ?_)
  iterate 14
    refine tkn (v := ?_) 0 rfl ?_ ?_; rotate_left 1
    · intro w hSw; obtain ⟨s1, s2⟩ := HS5.out w hSw; go_simp; try with_reducible rfl
    try simp only [Act.put, tdy]
  refine wpAnyH_done (by kernel_rfl) ?_ _
  clear hHeld
  have HK5 := hid_of (HK3.out.trans HK4.out.drew)
  go_wp2
  exact bodyPost_ret (v := .bool true) (by simp [results, Try.results58, go_sem]) rfl ⟨rfl, HK5.out⟩

set_option maxHeartbeats 2000000 in
theorem may_ok {w : World} {s : Nat} {σ : FSt} (H : Fs w s σ) (h n : Int) (x : Ha) (hx : look σ.hs h = some x) (hm : x.md ≠ 0) (f : Fi) (hf : look σ.fs x.p = some f) (hn : 0 ≤ n) (hfit : 0 < n → ∀ W, Kept (fun _ => False) w W → Calls Try.prog 58 #[.pointer (some ⟨s, 0, none⟩), .agg x.cells, .int .i64 n] W fun e w' => e = .returned (.bool true) ∧ Kept (fun _ => False) W w') :
    Calls Try.prog 30 #[.pointer (some ⟨s, 0, none⟩), .int .i64 h, .int .i64 n] w fun e w' => e = .returned (.int .i64 0) ∧ Kept (fun _ => False) w w' := by
  have HC := hid_of (isopen_any H h)
  rw [hx, Option.isSome_some] at HC
  have HF := hid_of H
  have HG := hid_of (fun (W : World) (hW : Kept (fun _ => False) w W) => (H.same hW).getH hx)
  unfold Ha.cells at hfit
  obtain ⟨xp, hxp⟩ : ∃ q : ByteArray, q = ⟨x.p.toArray⟩ := ⟨_, rfl⟩
  rw [← hxp] at HG hfit
  generalize x.pl = pl at *
  generalize x.md = md at *
  have HFIT := hid_of hfit
  clear H hx hf hxp hfit
  go_enter Try.func30, Try.ntmps30
  go_wp2_with fail
  refine HC.out.mono ?_
  rintro e w1 ⟨rfl, hk1⟩
  have hc8 := (HF.out.same hk1).cell 8 (v := .map (some σ.hm)) rfl
  have hg := HG.out w1 hk1
  have hK2 : Kept (fun _ => False) w (w1.alloc (.cells #[.string xp, .int .i64 pl, .int .i64 md] 82)) := hk1.trans ((Kept.refl _ w1).alloc _)
  have HK2 := hid_of hK2
  have hng : ¬ n < 0 := by omega
  by_cases h0 : 0 < n
  · have HT := hid_of (HFIT.out h0 _ hK2)
    clear HC hk1 hK2
    go_wp2_with fail
    refine HT.out.mono ?_
    rintro e w3 ⟨rfl, hk3⟩
    have HK3 := hid_of (HK2.out.trans hk3)
    clear hk3 HT
    go_wp2
    exact bodyPost_ret (v := .int .i64 0) (by simp [results, Try.results30, go_sem]) rfl ⟨rfl, HK3.out⟩
  · obtain rfl : n = 0 := by omega
    clear HC hk1 hK2 h0 hng HFIT
    go_wp2
    exact bodyPost_ret (v := .int .i64 0) (by simp [results, Try.results30, go_sem]) rfl ⟨rfl, HK2.out⟩
end Go.Proofs.Ytmkfjdfpcjkmnaa

/-
  Files opened.
-/
import Derived.Test.YtmkfjdfpcjkmnaaVq
namespace Go.Proofs.Ytmkfjdfpcjkmnaa
open Go.RowKit
set_option linter.unusedVariables false
set_option linter.unusedSimpArgs false
set_option maxRecDepth 100000

def OpenR (w : World) (s : Nat) (σ : FSt) (k : Nat) (R : FSt → Prop) (e : Ending) (w' : World) : Prop :=
  e = .returned (.tuple #[.int .i64 k, .int .i64 0]) ∧ ∃ σ', R σ' ∧ Fs w' s σ' ∧ Grows σ σ' s w.heap.size ∧ Kept (fun k => σ.own s k) w w'
def withH (σ1 : FSt) (k : Nat) (cp : By) (md : Int) (b : Nat) : FSt := { σ1 with hs := lays σ1.hs (k : Int) ⟨cp, 0, md⟩ b, uo := σ1.uo + 1 }
def cutF (σ1 : FSt) (cp : By) (f : Fi) (b : Nat) : FSt := { σ1 with fs := lays σ1.fs cp ⟨f.p, f.nm, .slice none 0 0, []⟩ b, ub := σ1.ub - f.xs.length }
set_option maxHeartbeats 8000000 in
theorem open_there (HR : HighRunes) {w : World} {s : Nat} {σ : FSt} (H : Fs w s σ) (pin : ByteArray) (cp : By) (hcl : cleanOf pin.data.toList = (cp, 0)) (m md : Int) (hm : 0 ≤ m ∧ m ≤ 7 ∧ m ≠ 4) (hand : bits .andNot .i64 m 4 = md)
    (HMO : ∀ W, Kept (fun _ => False) w W → Calls Try.prog 39 #[.pointer (some ⟨s, 0, none⟩), .string ⟨cp.toArray⟩, .int .i64 m] W fun e w' => e = .returned (.int .i64 0) ∧ Kept (fun _ => False) W w') (hopen : σ.uo < σ.qo) (ho0 : 0 ≤ σ.uo) (ho1 : σ.uo ≤ 1000000) (f : Fi) (hf0 : (look σ.fs cp).isSome = true) (hf : look σ.fs cp = some f) (hmd : md ≠ 2)
    (k : Nat) (hk : k ≤ 1000000) (hkn : look σ.hs (k : Int) = none) (hkl : ∀ j : Nat, j < k → (look σ.hs (j : Int)).isSome = true) :
    Calls Try.prog 14 #[.pointer (some ⟨s, 0, none⟩), .string pin, .int .i64 m] w fun e w' => OpenR w s σ k (fun σ' => ∃ σ1, σ1 = σ ∧ ∃ b, σ' = withH σ1 k cp md b) e w' := by
  have HCL := hid_of (clean_full HR pin)
  rw [hcl] at HCL
  have HIM := hid_of (ismode_any m hm.1 hm.2.1 hm.2.2)
  have HF := hid_of H
  have HMO' := hid_of HMO
  have HIF := hid_of (fun (W : World) (hW : Kept (fun _ => False) w W) => isfile_any (H.same hW) cp)
  rw [hf0] at HIF
  have HLS := hid_of (fun (W : World) σ1 (h1 : Fs W s σ1) (h2 : σ1.hs = σ.hs) => least_any h1 k hk (by rw [h2]; exact hkn) (by rw [h2]; exact hkl))
  have HFF := hid_of hf
  obtain ⟨cc, hcc⟩ : ∃ q : ByteArray, q = ⟨cp.toArray⟩ := ⟨_, rfl⟩
  simp only [← hcc] at HCL HMO' HIF
  have HCC := hid_of hcc
  have HMD := hid_of hmd
  have hng : ¬ σ.qo ≤ σ.uo := by omega
  clear H hcl hm HMO hf0 hkn hkl hcc hf
  go_enter Try.func14, Try.ntmps14
  go_wp2_with fail
  refine (HIM.out _).mono ?_
  rintro e w0 ⟨rfl, h0⟩
  have h0' := h0.symm
  subst h0'
  clear h0 HIM
  go_wp2_with fail
  refine (HCL.out _).mono ?_
  rintro e w1 ⟨rfl, hk1⟩
  have HK1 := hid_of hk1
  clear hk1 HCL
  go_wp2_with fail
  refine (HMO'.out _ HK1.out).mono ?_
  rintro e w2 ⟨rfl, hk2⟩
  have HK2 := hid_of (HK1.out.trans hk2)
  clear hk2 HMO' HK1
  have HS9 : Hid (∀ w', Kept (fun _ => False) w2 w' → w'.cell? ⟨s, 5, none⟩ = some (.int .i64 σ.uo) ∧ w'.cell? ⟨s, 2, none⟩ = some (.int .i64 σ.qo)) := fun w' hw =>
    ⟨(HF.out.same (HK2.out.trans hw)).cell 5 rfl, (HF.out.same (HK2.out.trans hw)).cell 2 rfl⟩
  have HK2d : Hid (Kept (fun _ => False) w w2.drew) := HK2.out.drew
  go_upto_region 9 with fail
  refine wp_region_held_drew (S := fun w' => Kept (fun _ => False) w2 w') (by kernel_rfl) ((Kept.refl _ _).drew) (fun hHeld => ?_)
  iterate 11
    refine tkn (v := ?_) 0 rfl ?_ ?_; rotate_left 1
    · intro w hSw; obtain ⟨s1, s2⟩ := HS9.out w hSw; go_simp; try with_reducible rfl
    try simp only [Act.put, tdy]
  refine wpAnyH_done (by kernel_rfl) ?_ _
  clear hHeld HS9
  generalize w2.drew = w2d at *
  go_wp2_with fail
  refine (HIF.out _ HK2d.out).mono ?_
  rintro e w2e ⟨rfl, hk2e⟩
  have HK2e := hid_of (HK2d.out.trans hk2e)
  clear hk2e HIF HK2d HK2
  obtain ⟨σ1, hσ1⟩ : ∃ x : FSt, x = σ := ⟨_, rfl⟩
  obtain ⟨w3, hw3⟩ : ∃ x : World, x = w2e := ⟨_, rfl⟩
  have HF3 : Hid (Fs w3 s σ1) := by
    show Fs _ _ _
    rw [hσ1, hw3]
    exact HF.out.same HK2e.out
  have HG3 : Hid (Grows σ σ1 s w.heap.size) := by
    show Grows _ _ _ _
    rw [hσ1]
    exact Grows.refl _ _ _
  have HK3 : Hid (Kept (fun k => σ.own s k) w w3) := by
    show Kept _ _ _
    rw [hw3]
    exact HK2e.out.mono (fun _ _ f => f.elim)
  have hhs : σ1.hs = σ.hs := by rw [hσ1]
  have huo : σ1.uo = σ.uo := by rw [hσ1]
  have HFF1 : Hid (look σ1.fs cp = some f) := by
    show _ = _
    rw [hσ1]
    exact HFF.out
  have HRR1 : Hid (σ1 = σ) := hσ1
  skip
  rw [← hw3]
  clear hσ1 hw3 HK2e
  have hk4 : Kept (fun _ => False) w3 (w3.alloc (.cells #[.string cc, .int .i64 0, .int .i64 md] 82)) := (Kept.refl _ w3).alloc _
  have hb4 : (w3.alloc (.cells #[.string cc, .int .i64 0, .int .i64 md] 82)).heap[w3.heap.size]? = some (.cells #[.string cc, .int .i64 0, .int .i64 md] 82 (0, 0)) := alloc_new _ _ rfl
  have hs3 := HK3.out.size
  have hq1 : ¬ σ1.own s w3.heap.size := fun e => by have := HF3.out.lt e; omega
  have HHS := hid_of hhs
  have HUO := hid_of huo
  have HK4 := hid_of hk4
  have HB4 := hid_of hb4
  clear hhs huo hk4 hb4
  obtain ⟨σ2, hσ2⟩ : ∃ x, x = σ1 := ⟨_, rfl⟩
  obtain ⟨w5, hw5⟩ : ∃ x, x = w3.alloc (.cells #[.string cc, .int .i64 0, .int .i64 md] 82) := ⟨_, rfl⟩
  have HF5 : Hid (Fs w5 s σ2) := by
    show Fs _ _ _
    rw [hσ2, hw5]
    exact HF3.out.same HK4.out
  have hhs2 : σ2.hs = σ1.hs := by rw [hσ2]
  have huo2 : σ2.uo = σ1.uo := by rw [hσ2]
  have HS2 := hid_of hσ2
  have HG5 : Hid (Grows σ1 σ2 s w3.heap.size) := by
    show Grows _ _ _ _
    rw [hσ2]
    exact Grows.refl _ _ _
  have HK5 : Hid (Kept (fun k => σ1.own s k) w3 w5) := by
    show Kept _ _ _
    rw [hw5]
    exact HK4.out.mono (fun _ _ f => f.elim)
  have HB5 : Hid (w5.heap[w3.heap.size]? = some (.cells #[.string cc, .int .i64 0, .int .i64 md] 82 (0, 0))) := by
    show _ = _
    rw [hw5]
    exact HB4.out
  have HW5 := hid_of hw5
  clear hσ2 hw5 HK4 HB4
  have HL5 := hid_of (HLS.out w5 σ2 HF5.out (by rw [hhs2]; exact HHS.out))
  rw [HW5.out] at HL5
  go_wp2_with fail
  rw [← HW5.out] at HL5
  rw [← HW5.out]
  refine HL5.out.mono ?_
  rintro e w6 ⟨rfl, hk6⟩
  have hF6 := HF5.out.same hk6
  have hb6 : w6.heap[w3.heap.size]? = some (.cells #[.string cc, .int .i64 0, .int .i64 md] 82 (0, 0)) := (hk6.block _ (heap_lt HB5.out) (fun f => f)).trans HB5.out
  have hq2 : ¬ σ2.own s w3.heap.size := fun e => by
    rcases HG5.out _ e with h | h
    · exact hq1 h
    · exact absurd e (fun e => hq1 (by rw [← HS2.out]; exact e))
  obtain ⟨ch, hmh6⟩ := hF6.mh
  have hhm : s ≠ σ2.hm ∧ w3.heap.size ≠ σ2.hm := ⟨hF6.not_s.2.2.1, fun e => hq2 (.inr (.inr (.inr (.inl e))))⟩
  have hkd6 : Kept (fun k => k = σ2.hm) w6 w6.drew := (Kept.refl _ w6).drew
  have hmh6d : w6.drew.heap[σ2.hm]? = some (.map (σ2.hs.map cH.ent).toArray ch) := hmh6
  obtain ⟨ch', hup⟩ := run_lay fitsH w6.drew σ2.hm ch σ2.hs hmh6d (k : Int) ⟨cp, 0, md⟩
  obtain ⟨w7, hw7⟩ : ∃ W, W = World.over w6.drew σ2.hm (.map ((lays σ2.hs (k : Int) ⟨cp, 0, md⟩ ch).map cH.ent).toArray ch') := ⟨_, rfl⟩
  rw [← hw7, show cH.val ⟨cp, 0, md⟩ = .agg #[.string ⟨cp.toArray⟩, .int .i64 0, .int .i64 md] from rfl, show cH.enc (k : Int) = .int .i64 k from rfl, ← HCC.out] at hup
  have hkm : Kept (fun k => k = σ2.hm) w6 w7 := by rw [hw7]; exact hkd6.trans (kept_over _ _ _)
  have hmh7 : w7.heap[σ2.hm]? = some (.map ((lays σ2.hs (k : Int) ⟨cp, 0, md⟩ ch).map cH.ent).toArray ch') := by rw [hw7]; exact over_same _ _ _ (heap_lt hmh6d)
  clear hw7
  have hF7 : Fs w7 s { σ2 with hs := lays σ2.hs (k : Int) ⟨cp, 0, md⟩ ch } := hF6.setH hkm _ ⟨ch', hmh7⟩ (keys_lays _ _ ch hF6.kh)
  have c86 : w6.cell? ⟨s, 8, none⟩ = some (.map (some σ2.hm)) := hF6.cell 8 rfl
  have HSM : Hid (∀ w', Kept (fun k => k = σ2.hm) w6 w' → w'.cell? ⟨s, 8, none⟩ = some (.map (some σ2.hm)) ∧ w'.cell? ⟨w3.heap.size, 0, none⟩ = some (.string cc) ∧ w'.cell? ⟨w3.heap.size, 1, none⟩ = some (.int .i64 0) ∧ w'.cell? ⟨w3.heap.size, 2, none⟩ = some (.int .i64 md)) := fun w' hw =>
    ⟨hw.cell c86 hhm.1, hw.cell ((cell_block _ _ 0 _ _ _ hb6).trans rfl) hhm.2, hw.cell ((cell_block _ _ 1 _ _ _ hb6).trans rfl) hhm.2, hw.cell ((cell_block _ _ 2 _ _ _ hb6).trans rfl) hhm.2⟩
  have c57 := hF7.cell 5 (v := .int .i64 σ2.uo) rfl
  have f57 : w7.frozen? ⟨s, 5, none⟩ = false := frozen_block _ _ 5 _ _ hF7.blk
  have huoE : σ2.uo = σ.uo := huo2.trans HUO.out
  have wr1 : IntKind.i64.wrap (σ2.uo + 1) = σ2.uo + 1 := by rw [IntKind.wrap_i64]; omega
  have HEND : Hid (OpenR w s σ k (fun σ' => ∃ σ1, σ1 = σ ∧ ∃ b, σ' = withH σ1 k cp md b) (.returned (.tuple #[.int .i64 k, .int .i64 0])) (w7.setCell ⟨s, 5, none⟩ (.int .i64 (σ2.uo + 1)))) := by
    have hF8 : Fs (w7.setCell ⟨s, 5, none⟩ (.int .i64 (σ2.uo + 1))) s (withH σ2 k cp md ch) := hF7.setO _
    have hg : Grows σ σ2 s w.heap.size := HG3.out.trans (B' := w3.heap.size) (fun q hq => (HG5.out q hq).imp_right (fun h => by omega)) (by omega)
    refine ⟨rfl, withH σ2 k cp md ch, ⟨σ1, HRR1.out, ch, by rw [HS2.out]⟩, hF8, fun q hq => hg q hq, ?_⟩
    have k1 := kept_grows HK3.out HG3.out HK5.out
    have k2 : Kept (fun k => σ.own s k) w w7 := (k1.trans (hk6.mono (fun _ _ f => f.elim))).step hkm (fun q hq e => by
      rcases hg q (.inr (.inr (.inr (.inl e)))) with h | h
      · exact h
      · omega)
    exact Kept.setCell (p := ⟨s, 5, none⟩) k2 (.inr (.inl rfl)) _
  have HKM := hid_of hkm
  have HUP := hid_of hup
  clear hk6 hF6 hb6 hmh6 hmh6d hup hkm hmh7 hF7 c86 hhs2 huo2 huoE
  generalize σ2.hm = hm2 at *
  generalize σ2.uo = uo2 at *
  go_upto_region 17 with fail
  refine wp_region_held_drew (S := fun w' => Kept (fun k => k = hm2) w6 w') (by kernel_rfl) hkd6 (fun hHeld => ?_)
  iterate 6
    refine tkn (v := ?_) 0 rfl ?_ ?_; rotate_left 1
    · intro w hSw; obtain ⟨s1, s2, s3, s4⟩ := HSM.out w hSw; go_simp; try with_reducible rfl
    try simp only [Act.put, tdy]
  have hup' := HUP.out
  refine wpAnyH_ready (rs := [6]) (by kernel_rfl) (by simp) ?_
  refine AllReadyH.cons rfl (fun K hK => ?_) AllReadyH.nil
  go_simp
  refine hK.out _ _ HKM.out (fun hHeld => ?_)
  clear hK K
  try simp only [Act.put, tdy]
  refine wpAnyH_done (by kernel_rfl) ?_ _
  clear hHeld
  go_wp2
  exact bodyPost_ret (v := .tuple #[.int .i64 k, .int .i64 0]) (by simp [results, Try.results14, go_sem]) rfl HEND.out
set_option maxHeartbeats 8000000 in
theorem open_cut (HR : HighRunes) {w : World} {s : Nat} {σ : FSt} (H : Fs w s σ) (pin : ByteArray) (cp : By) (hcl : cleanOf pin.data.toList = (cp, 0)) (m md : Int) (hm : 0 ≤ m ∧ m ≤ 7 ∧ m ≠ 4) (hand : bits .andNot .i64 m 4 = md)
    (HMO : ∀ W, Kept (fun _ => False) w W → Calls Try.prog 39 #[.pointer (some ⟨s, 0, none⟩), .string ⟨cp.toArray⟩, .int .i64 m] W fun e w' => e = .returned (.int .i64 0) ∧ Kept (fun _ => False) W w') (hopen : σ.uo < σ.qo) (ho0 : 0 ≤ σ.uo) (ho1 : σ.uo ≤ 1000000) (f : Fi) (hf0 : (look σ.fs cp).isSome = true) (hf : look σ.fs cp = some f) (hmd : md = 2) (hub0 : 0 ≤ σ.ub) (hub1 : σ.ub ≤ 1099511627776)
    (k : Nat) (hk : k ≤ 1000000) (hkn : look σ.hs (k : Int) = none) (hkl : ∀ j : Nat, j < k → (look σ.hs (j : Int)).isSome = true) :
    Calls Try.prog 14 #[.pointer (some ⟨s, 0, none⟩), .string pin, .int .i64 m] w fun e w' => OpenR w s σ k (fun σ' => ∃ σ1, σ1 = σ ∧ ∃ b b2, σ' = withH (cutF σ1 cp f b2) k cp md b) e w' := by
  have HCL := hid_of (clean_full HR pin)
  rw [hcl] at HCL
  have HIM := hid_of (ismode_any m hm.1 hm.2.1 hm.2.2)
  have HF := hid_of H
  have HMO' := hid_of HMO
  have HIF := hid_of (fun (W : World) (hW : Kept (fun _ => False) w W) => isfile_any (H.same hW) cp)
  rw [hf0] at HIF
  have HLS := hid_of (fun (W : World) σ1 (h1 : Fs W s σ1) (h2 : σ1.hs = σ.hs) => least_any h1 k hk (by rw [h2]; exact hkn) (by rw [h2]; exact hkl))
  have HFF := hid_of hf
  obtain ⟨cc, hcc⟩ : ∃ q : ByteArray, q = ⟨cp.toArray⟩ := ⟨_, rfl⟩
  simp only [← hcc] at HCL HMO' HIF
  have HCC := hid_of hcc
  have HMD := hid_of hmd
  have hng : ¬ σ.qo ≤ σ.uo := by omega
  clear H hcl hm HMO hf0 hkn hkl hcc hf
  subst hmd
  go_enter Try.func14, Try.ntmps14
  go_wp2_with fail
  refine (HIM.out _).mono ?_
  rintro e w0 ⟨rfl, h0⟩
  have h0' := h0.symm
  subst h0'
  clear h0 HIM
  go_wp2_with fail
  refine (HCL.out _).mono ?_
  rintro e w1 ⟨rfl, hk1⟩
  have HK1 := hid_of hk1
  clear hk1 HCL
  go_wp2_with fail
  refine (HMO'.out _ HK1.out).mono ?_
  rintro e w2 ⟨rfl, hk2⟩
  have HK2 := hid_of (HK1.out.trans hk2)
  clear hk2 HMO' HK1
  have HS9 : Hid (∀ w', Kept (fun _ => False) w2 w' → w'.cell? ⟨s, 5, none⟩ = some (.int .i64 σ.uo) ∧ w'.cell? ⟨s, 2, none⟩ = some (.int .i64 σ.qo)) := fun w' hw =>
    ⟨(HF.out.same (HK2.out.trans hw)).cell 5 rfl, (HF.out.same (HK2.out.trans hw)).cell 2 rfl⟩
  have HK2d : Hid (Kept (fun _ => False) w w2.drew) := HK2.out.drew
  go_upto_region 9 with fail
  refine wp_region_held_drew (S := fun w' => Kept (fun _ => False) w2 w') (by kernel_rfl) ((Kept.refl _ _).drew) (fun hHeld => ?_)
  iterate 11
    refine tkn (v := ?_) 0 rfl ?_ ?_; rotate_left 1
    · intro w hSw; obtain ⟨s1, s2⟩ := HS9.out w hSw; go_simp; try with_reducible rfl
    try simp only [Act.put, tdy]
  refine wpAnyH_done (by kernel_rfl) ?_ _
  clear hHeld HS9
  generalize w2.drew = w2d at *
  go_wp2_with fail
  refine (HIF.out _ HK2d.out).mono ?_
  rintro e w2e ⟨rfl, hk2e⟩
  have HK2e := hid_of (HK2d.out.trans hk2e)
  clear hk2e HIF HK2d HK2
  obtain ⟨σ1, hσ1⟩ : ∃ x : FSt, x = σ := ⟨_, rfl⟩
  obtain ⟨w3, hw3⟩ : ∃ x : World, x = w2e := ⟨_, rfl⟩
  have HF3 : Hid (Fs w3 s σ1) := by
    show Fs _ _ _
    rw [hσ1, hw3]
    exact HF.out.same HK2e.out
  have HG3 : Hid (Grows σ σ1 s w.heap.size) := by
    show Grows _ _ _ _
    rw [hσ1]
    exact Grows.refl _ _ _
  have HK3 : Hid (Kept (fun k => σ.own s k) w w3) := by
    show Kept _ _ _
    rw [hw3]
    exact HK2e.out.mono (fun _ _ f => f.elim)
  have hhs : σ1.hs = σ.hs := by rw [hσ1]
  have huo : σ1.uo = σ.uo := by rw [hσ1]
  have HFF1 : Hid (look σ1.fs cp = some f) := by
    show _ = _
    rw [hσ1]
    exact HFF.out
  have HRR1 : Hid (σ1 = σ) := hσ1
  have hub : 0 ≤ σ1.ub ∧ σ1.ub ≤ 1099511627776 := by rw [hσ1]; exact ⟨hub0, hub1⟩
  rw [← hw3]
  clear hσ1 hw3 HK2e
  have hk4 : Kept (fun _ => False) w3 (w3.alloc (.cells #[.string cc, .int .i64 0, .int .i64 2] 82)) := (Kept.refl _ w3).alloc _
  have hb4 : (w3.alloc (.cells #[.string cc, .int .i64 0, .int .i64 2] 82)).heap[w3.heap.size]? = some (.cells #[.string cc, .int .i64 0, .int .i64 2] 82 (0, 0)) := alloc_new _ _ rfl
  have hs3 := HK3.out.size
  have hq1 : ¬ σ1.own s w3.heap.size := fun e => by have := HF3.out.lt e; omega
  have HHS := hid_of hhs
  have HUO := hid_of huo
  have HK4 := hid_of hk4
  have HB4 := hid_of hb4
  clear hhs huo hk4 hb4
  have HCU := hid_of (fcut_any (HF3.out.same HK4.out) cp f HFF1.out hub.1 hub.2)
  rw [← HCC.out] at HCU
  go_wp2_with fail
  generalize w3.alloc (.cells #[.string cc, .int .i64 0, .int .i64 2] 82) = w4 at *
  refine HCU.out.mono ?_
  rintro e w5 ⟨rfl, b2, hF5, hk5⟩
  have HF5 : Hid (Fs w5 s (cutF σ1 cp f b2)) := hF5
  have hg5 : Grows σ1 (cutF σ1 cp f b2) s w4.heap.size := grows_F (p := cp) (f' := ⟨f.p, f.nm, .slice none 0 0, []⟩) (b := b2) rfl rfl rfl rfl rfl (fun g hg => by cases hg)
  obtain ⟨σ2, hσ2⟩ : ∃ x, x = cutF σ1 cp f b2 := ⟨_, rfl⟩
  have hhs2 : σ2.hs = σ1.hs := by rw [hσ2]; rfl
  have huo2 : σ2.uo = σ1.uo := by rw [hσ2]; rfl
  rw [← hσ2] at HF5 hg5
  have HS2 := hid_of hσ2
  have HG5 := hid_of hg5
  have HK5 : Hid (Kept (fun k => σ1.own s k) w3 w5) := (HK4.out.mono (fun _ _ f => f.elim)).trans hk5
  have HB5 : Hid (w5.heap[w3.heap.size]? = some (.cells #[.string cc, .int .i64 0, .int .i64 2] 82 (0, 0))) := (hk5.block _ (heap_lt HB4.out) hq1).trans HB4.out
  have hz4 : w3.heap.size < w4.heap.size := heap_lt HB4.out
  clear hF5 hk5 hσ2 hg5 HCU HK4 HB4
  have HL5 := hid_of (HLS.out w5 σ2 HF5.out (by rw [hhs2]; exact HHS.out))
  go_wp2_with fail
  refine HL5.out.mono ?_
  rintro e w6 ⟨rfl, hk6⟩
  have hF6 := HF5.out.same hk6
  have hb6 : w6.heap[w3.heap.size]? = some (.cells #[.string cc, .int .i64 0, .int .i64 2] 82 (0, 0)) := (hk6.block _ (heap_lt HB5.out) (fun f => f)).trans HB5.out
  have hq2 : ¬ σ2.own s w3.heap.size := fun e => by
    rcases HG5.out _ e with h | h
    · exact hq1 h
    · omega
  obtain ⟨ch, hmh6⟩ := hF6.mh
  have hhm : s ≠ σ2.hm ∧ w3.heap.size ≠ σ2.hm := ⟨hF6.not_s.2.2.1, fun e => hq2 (.inr (.inr (.inr (.inl e))))⟩
  have hkd6 : Kept (fun k => k = σ2.hm) w6 w6.drew := (Kept.refl _ w6).drew
  have hmh6d : w6.drew.heap[σ2.hm]? = some (.map (σ2.hs.map cH.ent).toArray ch) := hmh6
  obtain ⟨ch', hup⟩ := run_lay fitsH w6.drew σ2.hm ch σ2.hs hmh6d (k : Int) ⟨cp, 0, 2⟩
  obtain ⟨w7, hw7⟩ : ∃ W, W = World.over w6.drew σ2.hm (.map ((lays σ2.hs (k : Int) ⟨cp, 0, 2⟩ ch).map cH.ent).toArray ch') := ⟨_, rfl⟩
  rw [← hw7, show cH.val ⟨cp, 0, 2⟩ = .agg #[.string ⟨cp.toArray⟩, .int .i64 0, .int .i64 2] from rfl, show cH.enc (k : Int) = .int .i64 k from rfl, ← HCC.out] at hup
  have hkm : Kept (fun k => k = σ2.hm) w6 w7 := by rw [hw7]; exact hkd6.trans (kept_over _ _ _)
  have hmh7 : w7.heap[σ2.hm]? = some (.map ((lays σ2.hs (k : Int) ⟨cp, 0, 2⟩ ch).map cH.ent).toArray ch') := by rw [hw7]; exact over_same _ _ _ (heap_lt hmh6d)
  clear hw7
  have hF7 : Fs w7 s { σ2 with hs := lays σ2.hs (k : Int) ⟨cp, 0, 2⟩ ch } := hF6.setH hkm _ ⟨ch', hmh7⟩ (keys_lays _ _ ch hF6.kh)
  have c86 : w6.cell? ⟨s, 8, none⟩ = some (.map (some σ2.hm)) := hF6.cell 8 rfl
  have HSM : Hid (∀ w', Kept (fun k => k = σ2.hm) w6 w' → w'.cell? ⟨s, 8, none⟩ = some (.map (some σ2.hm)) ∧ w'.cell? ⟨w3.heap.size, 0, none⟩ = some (.string cc) ∧ w'.cell? ⟨w3.heap.size, 1, none⟩ = some (.int .i64 0) ∧ w'.cell? ⟨w3.heap.size, 2, none⟩ = some (.int .i64 2)) := fun w' hw =>
    ⟨hw.cell c86 hhm.1, hw.cell ((cell_block _ _ 0 _ _ _ hb6).trans rfl) hhm.2, hw.cell ((cell_block _ _ 1 _ _ _ hb6).trans rfl) hhm.2, hw.cell ((cell_block _ _ 2 _ _ _ hb6).trans rfl) hhm.2⟩
  have c57 := hF7.cell 5 (v := .int .i64 σ2.uo) rfl
  have f57 : w7.frozen? ⟨s, 5, none⟩ = false := frozen_block _ _ 5 _ _ hF7.blk
  have huoE : σ2.uo = σ.uo := huo2.trans HUO.out
  have wr1 : IntKind.i64.wrap (σ2.uo + 1) = σ2.uo + 1 := by rw [IntKind.wrap_i64]; omega
  have HEND : Hid (OpenR w s σ k (fun σ' => ∃ σ1, σ1 = σ ∧ ∃ b b2, σ' = withH (cutF σ1 cp f b2) k cp 2 b) (.returned (.tuple #[.int .i64 k, .int .i64 0])) (w7.setCell ⟨s, 5, none⟩ (.int .i64 (σ2.uo + 1)))) := by
    have hF8 : Fs (w7.setCell ⟨s, 5, none⟩ (.int .i64 (σ2.uo + 1))) s (withH σ2 k cp 2 ch) := hF7.setO _
    have hg : Grows σ σ2 s w.heap.size := HG3.out.trans (B' := w3.heap.size) (fun q hq => (HG5.out q hq).imp_right (fun h => by omega)) (by omega)
    refine ⟨rfl, withH σ2 k cp 2 ch, ⟨σ1, HRR1.out, ch, b2, by rw [HS2.out]⟩, hF8, fun q hq => hg q hq, ?_⟩
    have k1 := kept_grows HK3.out HG3.out HK5.out
    have k2 : Kept (fun k => σ.own s k) w w7 := (k1.trans (hk6.mono (fun _ _ f => f.elim))).step hkm (fun q hq e => by
      rcases hg q (.inr (.inr (.inr (.inl e)))) with h | h
      · exact h
      · omega)
    exact Kept.setCell (p := ⟨s, 5, none⟩) k2 (.inr (.inl rfl)) _
  have HKM := hid_of hkm
  have HUP := hid_of hup
  clear hk6 hF6 hb6 hmh6 hmh6d hup hkm hmh7 hF7 c86 hhs2 huo2 huoE
  generalize σ2.hm = hm2 at *
  generalize σ2.uo = uo2 at *
  go_upto_region 17 with fail
  refine wp_region_held_drew (S := fun w' => Kept (fun k => k = hm2) w6 w') (by kernel_rfl) hkd6 (fun hHeld => ?_)
  iterate 6
    refine tkn (v := ?_) 0 rfl ?_ ?_; rotate_left 1
    · intro w hSw; obtain ⟨s1, s2, s3, s4⟩ := HSM.out w hSw; go_simp; try with_reducible rfl
    try simp only [Act.put, tdy]
  have hup' := HUP.out
  refine wpAnyH_ready (rs := [6]) (by kernel_rfl) (by simp) ?_
  refine AllReadyH.cons rfl (fun K hK => ?_) AllReadyH.nil
  go_simp
  refine hK.out _ _ HKM.out (fun hHeld => ?_)
  clear hK K
  try simp only [Act.put, tdy]
  refine wpAnyH_done (by kernel_rfl) ?_ _
  clear hHeld
  go_wp2
  exact bodyPost_ret (v := .tuple #[.int .i64 k, .int .i64 0]) (by simp [results, Try.results14, go_sem]) rfl HEND.out
set_option maxHeartbeats 8000000 in
theorem open_new (HR : HighRunes) {w : World} {s : Nat} {σ : FSt} (H : Fs w s σ) (pin : ByteArray) (cp : By) (hcl : cleanOf pin.data.toList = (cp, 0)) (m md : Int) (hm : 0 ≤ m ∧ m ≤ 7 ∧ m ≠ 4) (hand : bits .andNot .i64 m 4 = md)
    (HMO : ∀ W, Kept (fun _ => False) w W → Calls Try.prog 39 #[.pointer (some ⟨s, 0, none⟩), .string ⟨cp.toArray⟩, .int .i64 m] W fun e w' => e = .returned (.int .i64 0) ∧ Kept (fun _ => False) W w') (hopen : σ.uo < σ.qo) (ho0 : 0 ≤ σ.uo) (ho1 : σ.uo ≤ 1000000) (f : Fi) (hf0 : (look σ.fs cp).isSome = false) (R : FSt → Prop) (HMF : ∀ W, Kept (fun _ => False) w W → Calls Try.prog 41 #[.pointer (some ⟨s, 0, none⟩), .string ⟨cp.toArray⟩] W fun e w' => MadeR W s σ R e w') (hR : ∀ σ1, R σ1 → σ1.hs = σ.hs ∧ σ1.uo = σ.uo ∧ look σ1.fs cp = some f ∧ 0 ≤ σ1.ub ∧ σ1.ub ≤ 1099511627776) (hmd : md ≠ 2)
    (k : Nat) (hk : k ≤ 1000000) (hkn : look σ.hs (k : Int) = none) (hkl : ∀ j : Nat, j < k → (look σ.hs (j : Int)).isSome = true) :
    Calls Try.prog 14 #[.pointer (some ⟨s, 0, none⟩), .string pin, .int .i64 m] w fun e w' => OpenR w s σ k (fun σ' => ∃ σ1, R σ1 ∧ ∃ b, σ' = withH σ1 k cp md b) e w' := by
  have HCL := hid_of (clean_full HR pin)
  rw [hcl] at HCL
  have HIM := hid_of (ismode_any m hm.1 hm.2.1 hm.2.2)
  have HF := hid_of H
  have HMO' := hid_of HMO
  have HIF := hid_of (fun (W : World) (hW : Kept (fun _ => False) w W) => isfile_any (H.same hW) cp)
  rw [hf0] at HIF
  have HLS := hid_of (fun (W : World) σ1 (h1 : Fs W s σ1) (h2 : σ1.hs = σ.hs) => least_any h1 k hk (by rw [h2]; exact hkn) (by rw [h2]; exact hkl))
  have HMF' := hid_of HMF
  have HRR := hid_of hR
  obtain ⟨cc, hcc⟩ : ∃ q : ByteArray, q = ⟨cp.toArray⟩ := ⟨_, rfl⟩
  simp only [← hcc] at HCL HMO' HIF HMF'
  have HCC := hid_of hcc
  have HMD := hid_of hmd
  have hng : ¬ σ.qo ≤ σ.uo := by omega
  clear H hcl hm HMO hf0 hkn hkl hcc HMF hR
  go_enter Try.func14, Try.ntmps14
  go_wp2_with fail
  refine (HIM.out _).mono ?_
  rintro e w0 ⟨rfl, h0⟩
  have h0' := h0.symm
  subst h0'
  clear h0 HIM
  go_wp2_with fail
  refine (HCL.out _).mono ?_
  rintro e w1 ⟨rfl, hk1⟩
  have HK1 := hid_of hk1
  clear hk1 HCL
  go_wp2_with fail
  refine (HMO'.out _ HK1.out).mono ?_
  rintro e w2 ⟨rfl, hk2⟩
  have HK2 := hid_of (HK1.out.trans hk2)
  clear hk2 HMO' HK1
  have HS9 : Hid (∀ w', Kept (fun _ => False) w2 w' → w'.cell? ⟨s, 5, none⟩ = some (.int .i64 σ.uo) ∧ w'.cell? ⟨s, 2, none⟩ = some (.int .i64 σ.qo)) := fun w' hw =>
    ⟨(HF.out.same (HK2.out.trans hw)).cell 5 rfl, (HF.out.same (HK2.out.trans hw)).cell 2 rfl⟩
  have HK2d : Hid (Kept (fun _ => False) w w2.drew) := HK2.out.drew
  go_upto_region 9 with fail
  refine wp_region_held_drew (S := fun w' => Kept (fun _ => False) w2 w') (by kernel_rfl) ((Kept.refl _ _).drew) (fun hHeld => ?_)
  iterate 11
    refine tkn (v := ?_) 0 rfl ?_ ?_; rotate_left 1
    · intro w hSw; obtain ⟨s1, s2⟩ := HS9.out w hSw; go_simp; try with_reducible rfl
    try simp only [Act.put, tdy]
  refine wpAnyH_done (by kernel_rfl) ?_ _
  clear hHeld HS9
  generalize w2.drew = w2d at *
  go_wp2_with fail
  refine (HIF.out _ HK2d.out).mono ?_
  rintro e w2e ⟨rfl, hk2e⟩
  have HK2e := hid_of (HK2d.out.trans hk2e)
  clear hk2e HIF HK2d HK2
  go_wp2_with fail
  refine (HMF'.out _ HK2e.out).mono ?_
  rintro e w3 ⟨rfl, σ1, hr1, hf3, hg3, hk3⟩
  have HF3 := hid_of hf3
  have HK3 : Hid (Kept (fun k => σ.own s k) w w3) := (HK2e.out.mono (fun _ _ f => f.elim)).trans hk3
  have HG3 : Hid (Grows σ σ1 s w.heap.size) := fun q hq => (hg3 q hq).imp_right (fun h => Nat.le_trans HK2e.out.size h)
  obtain ⟨hhs, huo, hff1, hub⟩ := HRR.out σ1 hr1
  have HFF1 := hid_of hff1
  have HRR1 := hid_of hr1
  clear hr1 hf3 hg3 hk3 hff1 HMF' HK2e
  have hk4 : Kept (fun _ => False) w3 (w3.alloc (.cells #[.string cc, .int .i64 0, .int .i64 md] 82)) := (Kept.refl _ w3).alloc _
  have hb4 : (w3.alloc (.cells #[.string cc, .int .i64 0, .int .i64 md] 82)).heap[w3.heap.size]? = some (.cells #[.string cc, .int .i64 0, .int .i64 md] 82 (0, 0)) := alloc_new _ _ rfl
  have hs3 := HK3.out.size
  have hq1 : ¬ σ1.own s w3.heap.size := fun e => by have := HF3.out.lt e; omega
  have HHS := hid_of hhs
  have HUO := hid_of huo
  have HK4 := hid_of hk4
  have HB4 := hid_of hb4
  clear hhs huo hk4 hb4
  obtain ⟨σ2, hσ2⟩ : ∃ x, x = σ1 := ⟨_, rfl⟩
  obtain ⟨w5, hw5⟩ : ∃ x, x = w3.alloc (.cells #[.string cc, .int .i64 0, .int .i64 md] 82) := ⟨_, rfl⟩
  have HF5 : Hid (Fs w5 s σ2) := by
    show Fs _ _ _
    rw [hσ2, hw5]
    exact HF3.out.same HK4.out
  have hhs2 : σ2.hs = σ1.hs := by rw [hσ2]
  have huo2 : σ2.uo = σ1.uo := by rw [hσ2]
  have HS2 := hid_of hσ2
  have HG5 : Hid (Grows σ1 σ2 s w3.heap.size) := by
    show Grows _ _ _ _
    rw [hσ2]
    exact Grows.refl _ _ _
  have HK5 : Hid (Kept (fun k => σ1.own s k) w3 w5) := by
    show Kept _ _ _
    rw [hw5]
    exact HK4.out.mono (fun _ _ f => f.elim)
  have HB5 : Hid (w5.heap[w3.heap.size]? = some (.cells #[.string cc, .int .i64 0, .int .i64 md] 82 (0, 0))) := by
    show _ = _
    rw [hw5]
    exact HB4.out
  have HW5 := hid_of hw5
  clear hσ2 hw5 HK4 HB4
  have HL5 := hid_of (HLS.out w5 σ2 HF5.out (by rw [hhs2]; exact HHS.out))
  rw [HW5.out] at HL5
  go_wp2_with fail
  rw [← HW5.out] at HL5
  rw [← HW5.out]
  refine HL5.out.mono ?_
  rintro e w6 ⟨rfl, hk6⟩
  have hF6 := HF5.out.same hk6
  have hb6 : w6.heap[w3.heap.size]? = some (.cells #[.string cc, .int .i64 0, .int .i64 md] 82 (0, 0)) := (hk6.block _ (heap_lt HB5.out) (fun f => f)).trans HB5.out
  have hq2 : ¬ σ2.own s w3.heap.size := fun e => by
    rcases HG5.out _ e with h | h
    · exact hq1 h
    · exact absurd e (fun e => hq1 (by rw [← HS2.out]; exact e))
  obtain ⟨ch, hmh6⟩ := hF6.mh
  have hhm : s ≠ σ2.hm ∧ w3.heap.size ≠ σ2.hm := ⟨hF6.not_s.2.2.1, fun e => hq2 (.inr (.inr (.inr (.inl e))))⟩
  have hkd6 : Kept (fun k => k = σ2.hm) w6 w6.drew := (Kept.refl _ w6).drew
  have hmh6d : w6.drew.heap[σ2.hm]? = some (.map (σ2.hs.map cH.ent).toArray ch) := hmh6
  obtain ⟨ch', hup⟩ := run_lay fitsH w6.drew σ2.hm ch σ2.hs hmh6d (k : Int) ⟨cp, 0, md⟩
  obtain ⟨w7, hw7⟩ : ∃ W, W = World.over w6.drew σ2.hm (.map ((lays σ2.hs (k : Int) ⟨cp, 0, md⟩ ch).map cH.ent).toArray ch') := ⟨_, rfl⟩
  rw [← hw7, show cH.val ⟨cp, 0, md⟩ = .agg #[.string ⟨cp.toArray⟩, .int .i64 0, .int .i64 md] from rfl, show cH.enc (k : Int) = .int .i64 k from rfl, ← HCC.out] at hup
  have hkm : Kept (fun k => k = σ2.hm) w6 w7 := by rw [hw7]; exact hkd6.trans (kept_over _ _ _)
  have hmh7 : w7.heap[σ2.hm]? = some (.map ((lays σ2.hs (k : Int) ⟨cp, 0, md⟩ ch).map cH.ent).toArray ch') := by rw [hw7]; exact over_same _ _ _ (heap_lt hmh6d)
  clear hw7
  have hF7 : Fs w7 s { σ2 with hs := lays σ2.hs (k : Int) ⟨cp, 0, md⟩ ch } := hF6.setH hkm _ ⟨ch', hmh7⟩ (keys_lays _ _ ch hF6.kh)
  have c86 : w6.cell? ⟨s, 8, none⟩ = some (.map (some σ2.hm)) := hF6.cell 8 rfl
  have HSM : Hid (∀ w', Kept (fun k => k = σ2.hm) w6 w' → w'.cell? ⟨s, 8, none⟩ = some (.map (some σ2.hm)) ∧ w'.cell? ⟨w3.heap.size, 0, none⟩ = some (.string cc) ∧ w'.cell? ⟨w3.heap.size, 1, none⟩ = some (.int .i64 0) ∧ w'.cell? ⟨w3.heap.size, 2, none⟩ = some (.int .i64 md)) := fun w' hw =>
    ⟨hw.cell c86 hhm.1, hw.cell ((cell_block _ _ 0 _ _ _ hb6).trans rfl) hhm.2, hw.cell ((cell_block _ _ 1 _ _ _ hb6).trans rfl) hhm.2, hw.cell ((cell_block _ _ 2 _ _ _ hb6).trans rfl) hhm.2⟩
  have c57 := hF7.cell 5 (v := .int .i64 σ2.uo) rfl
  have f57 : w7.frozen? ⟨s, 5, none⟩ = false := frozen_block _ _ 5 _ _ hF7.blk
  have huoE : σ2.uo = σ.uo := huo2.trans HUO.out
  have wr1 : IntKind.i64.wrap (σ2.uo + 1) = σ2.uo + 1 := by rw [IntKind.wrap_i64]; omega
  have HEND : Hid (OpenR w s σ k (fun σ' => ∃ σ1, R σ1 ∧ ∃ b, σ' = withH σ1 k cp md b) (.returned (.tuple #[.int .i64 k, .int .i64 0])) (w7.setCell ⟨s, 5, none⟩ (.int .i64 (σ2.uo + 1)))) := by
    have hF8 : Fs (w7.setCell ⟨s, 5, none⟩ (.int .i64 (σ2.uo + 1))) s (withH σ2 k cp md ch) := hF7.setO _
    have hg : Grows σ σ2 s w.heap.size := HG3.out.trans (B' := w3.heap.size) (fun q hq => (HG5.out q hq).imp_right (fun h => by omega)) (by omega)
    refine ⟨rfl, withH σ2 k cp md ch, ⟨σ1, HRR1.out, ch, by rw [HS2.out]⟩, hF8, fun q hq => hg q hq, ?_⟩
    have k1 := kept_grows HK3.out HG3.out HK5.out
    have k2 : Kept (fun k => σ.own s k) w w7 := (k1.trans (hk6.mono (fun _ _ f => f.elim))).step hkm (fun q hq e => by
      rcases hg q (.inr (.inr (.inr (.inl e)))) with h | h
      · exact h
      · omega)
    exact Kept.setCell (p := ⟨s, 5, none⟩) k2 (.inr (.inl rfl)) _
  have HKM := hid_of hkm
  have HUP := hid_of hup
  clear hk6 hF6 hb6 hmh6 hmh6d hup hkm hmh7 hF7 c86 hhs2 huo2 huoE
  generalize σ2.hm = hm2 at *
  generalize σ2.uo = uo2 at *
  go_upto_region 17 with fail
  refine wp_region_held_drew (S := fun w' => Kept (fun k => k = hm2) w6 w') (by kernel_rfl) hkd6 (fun hHeld => ?_)
  iterate 6
    refine tkn (v := ?_) 0 rfl ?_ ?_; rotate_left 1
    · intro w hSw; obtain ⟨s1, s2, s3, s4⟩ := HSM.out w hSw; go_simp; try with_reducible rfl
    try simp only [Act.put, tdy]
  have hup' := HUP.out
  refine wpAnyH_ready (rs := [6]) (by kernel_rfl) (by simp) ?_
  refine AllReadyH.cons rfl (fun K hK => ?_) AllReadyH.nil
  go_simp
  refine hK.out _ _ HKM.out (fun hHeld => ?_)
  clear hK K
  try simp only [Act.put, tdy]
  refine wpAnyH_done (by kernel_rfl) ?_ _
  clear hHeld
  go_wp2
  exact bodyPost_ret (v := .tuple #[.int .i64 k, .int .i64 0]) (by simp [results, Try.results14, go_sem]) rfl HEND.out
set_option maxHeartbeats 8000000 in
theorem open_newcut (HR : HighRunes) {w : World} {s : Nat} {σ : FSt} (H : Fs w s σ) (pin : ByteArray) (cp : By) (hcl : cleanOf pin.data.toList = (cp, 0)) (m md : Int) (hm : 0 ≤ m ∧ m ≤ 7 ∧ m ≠ 4) (hand : bits .andNot .i64 m 4 = md)
    (HMO : ∀ W, Kept (fun _ => False) w W → Calls Try.prog 39 #[.pointer (some ⟨s, 0, none⟩), .string ⟨cp.toArray⟩, .int .i64 m] W fun e w' => e = .returned (.int .i64 0) ∧ Kept (fun _ => False) W w') (hopen : σ.uo < σ.qo) (ho0 : 0 ≤ σ.uo) (ho1 : σ.uo ≤ 1000000) (f : Fi) (hf0 : (look σ.fs cp).isSome = false) (R : FSt → Prop) (HMF : ∀ W, Kept (fun _ => False) w W → Calls Try.prog 41 #[.pointer (some ⟨s, 0, none⟩), .string ⟨cp.toArray⟩] W fun e w' => MadeR W s σ R e w') (hR : ∀ σ1, R σ1 → σ1.hs = σ.hs ∧ σ1.uo = σ.uo ∧ look σ1.fs cp = some f ∧ 0 ≤ σ1.ub ∧ σ1.ub ≤ 1099511627776) (hmd : md = 2) (hub0 : 0 ≤ σ.ub) (hub1 : σ.ub ≤ 1099511627776)
    (k : Nat) (hk : k ≤ 1000000) (hkn : look σ.hs (k : Int) = none) (hkl : ∀ j : Nat, j < k → (look σ.hs (j : Int)).isSome = true) :
    Calls Try.prog 14 #[.pointer (some ⟨s, 0, none⟩), .string pin, .int .i64 m] w fun e w' => OpenR w s σ k (fun σ' => ∃ σ1, R σ1 ∧ ∃ b b2, σ' = withH (cutF σ1 cp f b2) k cp md b) e w' := by
  have HCL := hid_of (clean_full HR pin)
  rw [hcl] at HCL
  have HIM := hid_of (ismode_any m hm.1 hm.2.1 hm.2.2)
  have HF := hid_of H
  have HMO' := hid_of HMO
  have HIF := hid_of (fun (W : World) (hW : Kept (fun _ => False) w W) => isfile_any (H.same hW) cp)
  rw [hf0] at HIF
  have HLS := hid_of (fun (W : World) σ1 (h1 : Fs W s σ1) (h2 : σ1.hs = σ.hs) => least_any h1 k hk (by rw [h2]; exact hkn) (by rw [h2]; exact hkl))
  have HMF' := hid_of HMF
  have HRR := hid_of hR
  obtain ⟨cc, hcc⟩ : ∃ q : ByteArray, q = ⟨cp.toArray⟩ := ⟨_, rfl⟩
  simp only [← hcc] at HCL HMO' HIF HMF'
  have HCC := hid_of hcc
  have HMD := hid_of hmd
  have hng : ¬ σ.qo ≤ σ.uo := by omega
  clear H hcl hm HMO hf0 hkn hkl hcc HMF hR
  subst hmd
  go_enter Try.func14, Try.ntmps14
  go_wp2_with fail
  refine (HIM.out _).mono ?_
  rintro e w0 ⟨rfl, h0⟩
  have h0' := h0.symm
  subst h0'
  clear h0 HIM
  go_wp2_with fail
  refine (HCL.out _).mono ?_
  rintro e w1 ⟨rfl, hk1⟩
  have HK1 := hid_of hk1
  clear hk1 HCL
  go_wp2_with fail
  refine (HMO'.out _ HK1.out).mono ?_
  rintro e w2 ⟨rfl, hk2⟩
  have HK2 := hid_of (HK1.out.trans hk2)
  clear hk2 HMO' HK1
  have HS9 : Hid (∀ w', Kept (fun _ => False) w2 w' → w'.cell? ⟨s, 5, none⟩ = some (.int .i64 σ.uo) ∧ w'.cell? ⟨s, 2, none⟩ = some (.int .i64 σ.qo)) := fun w' hw =>
    ⟨(HF.out.same (HK2.out.trans hw)).cell 5 rfl, (HF.out.same (HK2.out.trans hw)).cell 2 rfl⟩
  have HK2d : Hid (Kept (fun _ => False) w w2.drew) := HK2.out.drew
  go_upto_region 9 with fail
  refine wp_region_held_drew (S := fun w' => Kept (fun _ => False) w2 w') (by kernel_rfl) ((Kept.refl _ _).drew) (fun hHeld => ?_)
  iterate 11
    refine tkn (v := ?_) 0 rfl ?_ ?_; rotate_left 1
    · intro w hSw; obtain ⟨s1, s2⟩ := HS9.out w hSw; go_simp; try with_reducible rfl
    try simp only [Act.put, tdy]
  refine wpAnyH_done (by kernel_rfl) ?_ _
  clear hHeld HS9
  generalize w2.drew = w2d at *
  go_wp2_with fail
  refine (HIF.out _ HK2d.out).mono ?_
  rintro e w2e ⟨rfl, hk2e⟩
  have HK2e := hid_of (HK2d.out.trans hk2e)
  clear hk2e HIF HK2d HK2
  go_wp2_with fail
  refine (HMF'.out _ HK2e.out).mono ?_
  rintro e w3 ⟨rfl, σ1, hr1, hf3, hg3, hk3⟩
  have HF3 := hid_of hf3
  have HK3 : Hid (Kept (fun k => σ.own s k) w w3) := (HK2e.out.mono (fun _ _ f => f.elim)).trans hk3
  have HG3 : Hid (Grows σ σ1 s w.heap.size) := fun q hq => (hg3 q hq).imp_right (fun h => Nat.le_trans HK2e.out.size h)
  obtain ⟨hhs, huo, hff1, hub⟩ := HRR.out σ1 hr1
  have HFF1 := hid_of hff1
  have HRR1 := hid_of hr1
  clear hr1 hf3 hg3 hk3 hff1 HMF' HK2e
  have hk4 : Kept (fun _ => False) w3 (w3.alloc (.cells #[.string cc, .int .i64 0, .int .i64 2] 82)) := (Kept.refl _ w3).alloc _
  have hb4 : (w3.alloc (.cells #[.string cc, .int .i64 0, .int .i64 2] 82)).heap[w3.heap.size]? = some (.cells #[.string cc, .int .i64 0, .int .i64 2] 82 (0, 0)) := alloc_new _ _ rfl
  have hs3 := HK3.out.size
  have hq1 : ¬ σ1.own s w3.heap.size := fun e => by have := HF3.out.lt e; omega
  have HHS := hid_of hhs
  have HUO := hid_of huo
  have HK4 := hid_of hk4
  have HB4 := hid_of hb4
  clear hhs huo hk4 hb4
  have HCU := hid_of (fcut_any (HF3.out.same HK4.out) cp f HFF1.out hub.1 hub.2)
  rw [← HCC.out] at HCU
  go_wp2_with fail
  generalize w3.alloc (.cells #[.string cc, .int .i64 0, .int .i64 2] 82) = w4 at *
  refine HCU.out.mono ?_
  rintro e w5 ⟨rfl, b2, hF5, hk5⟩
  have HF5 : Hid (Fs w5 s (cutF σ1 cp f b2)) := hF5
  have hg5 : Grows σ1 (cutF σ1 cp f b2) s w4.heap.size := grows_F (p := cp) (f' := ⟨f.p, f.nm, .slice none 0 0, []⟩) (b := b2) rfl rfl rfl rfl rfl (fun g hg => by cases hg)
  obtain ⟨σ2, hσ2⟩ : ∃ x, x = cutF σ1 cp f b2 := ⟨_, rfl⟩
  have hhs2 : σ2.hs = σ1.hs := by rw [hσ2]; rfl
  have huo2 : σ2.uo = σ1.uo := by rw [hσ2]; rfl
  rw [← hσ2] at HF5 hg5
  have HS2 := hid_of hσ2
  have HG5 := hid_of hg5
  have HK5 : Hid (Kept (fun k => σ1.own s k) w3 w5) := (HK4.out.mono (fun _ _ f => f.elim)).trans hk5
  have HB5 : Hid (w5.heap[w3.heap.size]? = some (.cells #[.string cc, .int .i64 0, .int .i64 2] 82 (0, 0))) := (hk5.block _ (heap_lt HB4.out) hq1).trans HB4.out
  have hz4 : w3.heap.size < w4.heap.size := heap_lt HB4.out
  clear hF5 hk5 hσ2 hg5 HCU HK4 HB4
  have HL5 := hid_of (HLS.out w5 σ2 HF5.out (by rw [hhs2]; exact HHS.out))
  go_wp2_with fail
  refine HL5.out.mono ?_
  rintro e w6 ⟨rfl, hk6⟩
  have hF6 := HF5.out.same hk6
  have hb6 : w6.heap[w3.heap.size]? = some (.cells #[.string cc, .int .i64 0, .int .i64 2] 82 (0, 0)) := (hk6.block _ (heap_lt HB5.out) (fun f => f)).trans HB5.out
  have hq2 : ¬ σ2.own s w3.heap.size := fun e => by
    rcases HG5.out _ e with h | h
    · exact hq1 h
    · omega
  obtain ⟨ch, hmh6⟩ := hF6.mh
  have hhm : s ≠ σ2.hm ∧ w3.heap.size ≠ σ2.hm := ⟨hF6.not_s.2.2.1, fun e => hq2 (.inr (.inr (.inr (.inl e))))⟩
  have hkd6 : Kept (fun k => k = σ2.hm) w6 w6.drew := (Kept.refl _ w6).drew
  have hmh6d : w6.drew.heap[σ2.hm]? = some (.map (σ2.hs.map cH.ent).toArray ch) := hmh6
  obtain ⟨ch', hup⟩ := run_lay fitsH w6.drew σ2.hm ch σ2.hs hmh6d (k : Int) ⟨cp, 0, 2⟩
  obtain ⟨w7, hw7⟩ : ∃ W, W = World.over w6.drew σ2.hm (.map ((lays σ2.hs (k : Int) ⟨cp, 0, 2⟩ ch).map cH.ent).toArray ch') := ⟨_, rfl⟩
  rw [← hw7, show cH.val ⟨cp, 0, 2⟩ = .agg #[.string ⟨cp.toArray⟩, .int .i64 0, .int .i64 2] from rfl, show cH.enc (k : Int) = .int .i64 k from rfl, ← HCC.out] at hup
  have hkm : Kept (fun k => k = σ2.hm) w6 w7 := by rw [hw7]; exact hkd6.trans (kept_over _ _ _)
  have hmh7 : w7.heap[σ2.hm]? = some (.map ((lays σ2.hs (k : Int) ⟨cp, 0, 2⟩ ch).map cH.ent).toArray ch') := by rw [hw7]; exact over_same _ _ _ (heap_lt hmh6d)
  clear hw7
  have hF7 : Fs w7 s { σ2 with hs := lays σ2.hs (k : Int) ⟨cp, 0, 2⟩ ch } := hF6.setH hkm _ ⟨ch', hmh7⟩ (keys_lays _ _ ch hF6.kh)
  have c86 : w6.cell? ⟨s, 8, none⟩ = some (.map (some σ2.hm)) := hF6.cell 8 rfl
  have HSM : Hid (∀ w', Kept (fun k => k = σ2.hm) w6 w' → w'.cell? ⟨s, 8, none⟩ = some (.map (some σ2.hm)) ∧ w'.cell? ⟨w3.heap.size, 0, none⟩ = some (.string cc) ∧ w'.cell? ⟨w3.heap.size, 1, none⟩ = some (.int .i64 0) ∧ w'.cell? ⟨w3.heap.size, 2, none⟩ = some (.int .i64 2)) := fun w' hw =>
    ⟨hw.cell c86 hhm.1, hw.cell ((cell_block _ _ 0 _ _ _ hb6).trans rfl) hhm.2, hw.cell ((cell_block _ _ 1 _ _ _ hb6).trans rfl) hhm.2, hw.cell ((cell_block _ _ 2 _ _ _ hb6).trans rfl) hhm.2⟩
  have c57 := hF7.cell 5 (v := .int .i64 σ2.uo) rfl
  have f57 : w7.frozen? ⟨s, 5, none⟩ = false := frozen_block _ _ 5 _ _ hF7.blk
  have huoE : σ2.uo = σ.uo := huo2.trans HUO.out
  have wr1 : IntKind.i64.wrap (σ2.uo + 1) = σ2.uo + 1 := by rw [IntKind.wrap_i64]; omega
  have HEND : Hid (OpenR w s σ k (fun σ' => ∃ σ1, R σ1 ∧ ∃ b b2, σ' = withH (cutF σ1 cp f b2) k cp 2 b) (.returned (.tuple #[.int .i64 k, .int .i64 0])) (w7.setCell ⟨s, 5, none⟩ (.int .i64 (σ2.uo + 1)))) := by
    have hF8 : Fs (w7.setCell ⟨s, 5, none⟩ (.int .i64 (σ2.uo + 1))) s (withH σ2 k cp 2 ch) := hF7.setO _
    have hg : Grows σ σ2 s w.heap.size := HG3.out.trans (B' := w3.heap.size) (fun q hq => (HG5.out q hq).imp_right (fun h => by omega)) (by omega)
    refine ⟨rfl, withH σ2 k cp 2 ch, ⟨σ1, HRR1.out, ch, b2, by rw [HS2.out]⟩, hF8, fun q hq => hg q hq, ?_⟩
    have k1 := kept_grows HK3.out HG3.out HK5.out
    have k2 : Kept (fun k => σ.own s k) w w7 := (k1.trans (hk6.mono (fun _ _ f => f.elim))).step hkm (fun q hq e => by
      rcases hg q (.inr (.inr (.inr (.inl e)))) with h | h
      · exact h
      · omega)
    exact Kept.setCell (p := ⟨s, 5, none⟩) k2 (.inr (.inl rfl)) _
  have HKM := hid_of hkm
  have HUP := hid_of hup
  clear hk6 hF6 hb6 hmh6 hmh6d hup hkm hmh7 hF7 c86 hhs2 huo2 huoE
  generalize σ2.hm = hm2 at *
  generalize σ2.uo = uo2 at *
  go_upto_region 17 with fail
  refine wp_region_held_drew (S := fun w' => Kept (fun k => k = hm2) w6 w') (by kernel_rfl) hkd6 (fun hHeld => ?_)
  iterate 6
    refine tkn (v := ?_) 0 rfl ?_ ?_; rotate_left 1
    · intro w hSw; obtain ⟨s1, s2, s3, s4⟩ := HSM.out w hSw; go_simp; try with_reducible rfl
    try simp only [Act.put, tdy]
  have hup' := HUP.out
  refine wpAnyH_ready (rs := [6]) (by kernel_rfl) (by simp) ?_
  refine AllReadyH.cons rfl (fun K hK => ?_) AllReadyH.nil
  go_simp
  refine hK.out _ _ HKM.out (fun hHeld => ?_)
  clear hK K
  try simp only [Act.put, tdy]
  refine wpAnyH_done (by kernel_rfl) ?_ _
  clear hHeld
  go_wp2
  exact bodyPost_ret (v := .tuple #[.int .i64 k, .int .i64 0]) (by simp [results, Try.results14, go_sem]) rfl HEND.out
end Go.Proofs.Ytmkfjdfpcjkmnaa

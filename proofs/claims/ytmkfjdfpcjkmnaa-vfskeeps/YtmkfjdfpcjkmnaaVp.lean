/-
  Directories made.
-/
import Derived.Test.YtmkfjdfpcjkmnaaVo
namespace Go.Proofs.Ytmkfjdfpcjkmnaa
open Go.RowKit
set_option linter.unusedVariables false
set_option linter.unusedSimpArgs false
set_option maxRecDepth 100000

theorem upD0 (p nm : By) : cD.val ⟨p, nm, true, .slice none 0 0, []⟩ = .agg #[.string ⟨p.toArray⟩, .string ⟨nm.toArray⟩, .bool true, .slice none 0 0] := rfl
set_option maxHeartbeats 4000000 in
theorem makedir_any (HR : HighRunes) {w : World} {s : Nat} {σ : FSt} (H : Fs w s σ) (p : By) (hp : p.length ≤ 16777216) (hno : isDirB σ p = false) (R : FSt → Prop) (HM : ∀ W, Kept (fun _ => False) w W → Calls Try.prog 57 #[.pointer (some ⟨s, 0, none⟩), .string ⟨(splitOf p).1.toArray⟩] W fun e w' => MadeR W s σ R e w') (hR : ∀ σ1, R σ1 → (dirAt σ1 (splitOf p).1).bl = [] ∧ 0 ≤ σ1.uf ∧ σ1.uf ≤ 1099511627776) :
    Calls Try.prog 57 #[.pointer (some ⟨s, 0, none⟩), .string ⟨p.toArray⟩] w fun e w' => MadeR w s σ (fun σ' => ∃ σ1, R σ1 ∧ ∃ bv' b b', σ' = { σ1 with ds := lays (lays σ1.ds (splitOf p).1 ⟨(dirAt σ1 (splitOf p).1).p, (dirAt σ1 (splitOf p).1).nm, (dirAt σ1 (splitOf p).1).d, bv', [⟨p, (splitOf p).2.1, true⟩]⟩ b) p ⟨p, (splitOf p).2.1, true, .slice none 0 0, []⟩ b', uf := σ1.uf + 1 }) e w' := by
  obtain ⟨dir, hdir⟩ : ∃ d, d = (splitOf p).1 := ⟨_, rfl⟩
  obtain ⟨nm, hnm⟩ : ∃ d, d = (splitOf p).2.1 := ⟨_, rfl⟩
  have HSA := hid_of (fun W => spotat_any HR p hp true W)
  have HAB := hid_of (fun W => above_any HR p hp ⟨nm.toArray⟩ true W)
  have HEN := hid_of (fun (W : World) σ1 (h1 : Fs W s σ1) (h2 : R σ1) => enter0 HR h1 ⟨p, nm, true⟩ hp (hR σ1 h2).1 (hR σ1 h2).2.1 (hR σ1 h2).2.2)
  rw [← hdir] at HAB HM
  rw [← hnm] at HSA
  simp only [← hdir] at HEN
  simp only [← hdir, ← hnm]
  have HMD := hid_of HM
  have HID := hid_of (isdir_any H p)
  rw [hno] at HID
  have HF := hid_of H
  obtain ⟨pp, hpp⟩ : ∃ q : ByteArray, q = ⟨p.toArray⟩ := ⟨_, rfl⟩
  obtain ⟨nn, hnn⟩ : ∃ q : ByteArray, q = ⟨nm.toArray⟩ := ⟨_, rfl⟩
  obtain ⟨dd, hdd⟩ : ∃ q : ByteArray, q = ⟨dir.toArray⟩ := ⟨_, rfl⟩
  simp only [← hpp, ← hnn] at HEN
  rw [← hpp, ← hnn] at HSA HAB
  rw [← hpp] at HID
  rw [← hdd] at HAB HMD
  rw [← hpp]
  have HPP := hid_of hpp
  have HNN := hid_of hnn
  clear H HM hR hdir hnm hpp hnn hdd
  go_enter Try.func57, Try.ntmps57
  go_wp2_with fail
  refine HID.out.mono ?_
  rintro e w0 ⟨rfl, hk0⟩
  have HK0 := hid_of hk0
  clear hk0 HID hno
  go_wp2_with fail
  refine (HSA.out _).mono ?_
  rintro e w1 ⟨rfl, hk1'⟩
  have hk1 := HK0.out.trans hk1'
  clear hk1'
  have hk2 : Kept (fun _ => False) w (w1.alloc (.cells #[.string pp, .string nn, .bool true, .slice none 0 0] 103)) := hk1.trans ((Kept.refl _ w1).alloc _)
  have hb2 : (w1.alloc (.cells #[.string pp, .string nn, .bool true, .slice none 0 0] 103)).heap[w1.heap.size]? = some (.cells #[.string pp, .string nn, .bool true, .slice none 0 0] 103 (0, 0)) := alloc_new _ _ rfl
  have HK2 := hid_of hk2
  have HB2 := hid_of hb2
  have hs1 : w.heap.size ≤ w1.heap.size := hk1.size
  clear hk1 hk2 hb2 HSA
  go_wp2_with fail
  refine (HAB.out _).mono ?_
  rintro e w3 ⟨rfl, hk3⟩
  have HM3 := hid_of (HMD.out w3 (HK2.out.trans hk3))
  have HK3 := hid_of (HK2.out.trans hk3)
  have HB3 : Hid (w3.heap[w1.heap.size]? = some (.cells #[.string pp, .string nn, .bool true, .slice none 0 0] 103 (0, 0))) := (hk3.block _ (heap_lt HB2.out) (fun f => f)).trans HB2.out
  clear hk3 HAB HMD HK2 HB2
  go_wp2_with fail
  refine HM3.out.mono ?_
  rintro e w4 ⟨rfl, σ1, hR1, hF4, hg4, hk4⟩
  have hs3 := HK3.out.size
  have hnq : ∀ k, σ.own s k → k < w.heap.size := fun k hk => HF.out.lt hk
  have hb4 : w4.heap[w1.heap.size]? = some (.cells #[.string pp, .string nn, .bool true, .slice none 0 0] 103 (0, 0)) := (hk4.block _ (heap_lt HB3.out) (fun e => by have := hnq _ e; omega)).trans HB3.out
  have hq1 : ¬ σ1.own s w1.heap.size := fun e => by
    rcases hg4 _ e with h | h
    · have := hnq _ h; omega
    · have := heap_lt HB3.out; omega
  have cb0 : w4.cell? ⟨w1.heap.size, 0, none⟩ = some (.string pp) := (cell_block _ _ 0 _ _ _ hb4).trans rfl
  have cb1 : w4.cell? ⟨w1.heap.size, 1, none⟩ = some (.string nn) := (cell_block _ _ 1 _ _ _ hb4).trans rfl
  have cb2 : w4.cell? ⟨w1.heap.size, 2, none⟩ = some (.bool true) := (cell_block _ _ 2 _ _ _ hb4).trans rfl
  have HE4 := hid_of (HEN.out w4 σ1 hF4 hR1)
  have HK4 := hid_of hk4
  have HG4 := hid_of hg4
  have HB4 := hid_of hb4
  have HR1 := hid_of hR1
  have HF4 := hid_of hF4
  clear hR1 hF4 hg4 hk4 hb4 HM3 HEN HB3
  go_wp2_with fail
  refine HE4.out.mono ?_
  rintro e w5 ⟨rfl, bv', b, hbv, hF5, hk5⟩
  obtain ⟨σ2, hσ2⟩ : ∃ x : FSt, x = { σ1 with ds := lays σ1.ds dir ⟨(dirAt σ1 dir).p, (dirAt σ1 dir).nm, (dirAt σ1 dir).d, bv', [⟨p, nm, true⟩]⟩ b, uf := σ1.uf + 1 } := ⟨_, rfl⟩
  rw [← hσ2] at hF5
  have hg45 : Grows σ1 σ2 s w4.heap.size := grows_D (p := dir) (f' := ⟨(dirAt σ1 dir).p, (dirAt σ1 dir).nm, (dirAt σ1 dir).d, bv', [⟨p, nm, true⟩]⟩) (b := b) (by rw [hσ2]) (by rw [hσ2]) (by rw [hσ2]) (by rw [hσ2]) (by rw [hσ2]) hbv
  have hb5 : w5.heap[w1.heap.size]? = some (.cells #[.string pp, .string nn, .bool true, .slice none 0 0] 103 (0, 0)) := (hk5.block _ (heap_lt HB4.out) hq1).trans HB4.out
  have hs4 := HK4.out.size
  have hq2 : ¬ σ2.own s w1.heap.size := fun e => by
    rcases hg45 _ e with h | h
    · exact hq1 h
    · have := heap_lt HB4.out; omega
  obtain ⟨cf, hmf5⟩ := hF5.md
  have hkd5 : Kept (fun k => k = σ2.dm) w5 w5.drew := (Kept.refl _ w5).drew
  have hmf5d : w5.drew.heap[σ2.dm]? = some (.map (σ2.ds.map cD.ent).toArray cf) := hmf5
  obtain ⟨cf', hup⟩ := run_lay fitsD w5.drew σ2.dm cf σ2.ds hmf5d p ⟨p, nm, true, .slice none 0 0, []⟩
  have hfm : σ2.dm ≠ s ∧ σ2.dm ≠ w1.heap.size := ⟨fun e => hF5.not_s.2.1 e.symm, fun e => hq2 (.inr (.inr (.inl e.symm)))⟩
  have c65 : w5.cell? ⟨s, 7, none⟩ = some (.map (some σ2.dm)) := hF5.cell 7 rfl
  have HSM : Hid (∀ w', Kept (fun k => k = σ2.dm) w5 w' → w'.cell? ⟨s, 7, none⟩ = some (.map (some σ2.dm)) ∧ w'.cell? ⟨w1.heap.size, 0, none⟩ = some (.string pp) ∧ w'.cell? ⟨w1.heap.size, 1, none⟩ = some (.string nn) ∧ w'.cell? ⟨w1.heap.size, 2, none⟩ = some (.bool true) ∧ w'.cell? ⟨w1.heap.size, 3, none⟩ = some (.slice none 0 0)) := fun w' hw =>
    ⟨hw.cell c65 (fun e => hfm.1 e.symm), hw.cell ((cell_block _ _ 0 _ _ _ hb5).trans rfl) (fun e => hfm.2 e.symm), hw.cell ((cell_block _ _ 1 _ _ _ hb5).trans rfl) (fun e => hfm.2 e.symm), hw.cell ((cell_block _ _ 2 _ _ _ hb5).trans rfl) (fun e => hfm.2 e.symm), hw.cell ((cell_block _ _ 3 _ _ _ hb5).trans rfl) (fun e => hfm.2 e.symm)⟩
  obtain ⟨w6, hw6⟩ : ∃ W, W = World.over w5.drew σ2.dm (.map ((lays σ2.ds p ⟨p, nm, true, .slice none 0 0, []⟩ cf).map cD.ent).toArray cf') := ⟨_, rfl⟩
  rw [← hw6, upD0, show cD.enc p = .string ⟨p.toArray⟩ from rfl, ← HPP.out, ← HNN.out] at hup
  have hkm : Kept (fun k => k = σ2.dm) w5 w6 := by rw [hw6]; exact hkd5.trans (kept_over _ _ _)
  have hmf6 : w6.heap[σ2.dm]? = some (.map ((lays σ2.ds p ⟨p, nm, true, .slice none 0 0, []⟩ cf).map cD.ent).toArray cf') := by rw [hw6]; exact over_same _ _ _ (heap_lt hmf5d)
  clear hw6
  have hF6 : Fs w6 s { σ2 with ds := lays σ2.ds p ⟨p, nm, true, .slice none 0 0, []⟩ cf } := Fs.setD hF5 p ⟨p, nm, true, .slice none 0 0, []⟩ cf (fun _ => False) (fun q hq _ => hq.elim) (hkm.mono (fun k _ e => .inl e)) ⟨cf', hmf6⟩ ⟨rfl, .inl ⟨rfl, rfl⟩⟩ (fun q hq => by cases hq)
  have HEND : Hid (MadeR w s σ (fun σ' => ∃ σ1, R σ1 ∧ ∃ bv' b b', σ' = { σ1 with ds := lays (lays σ1.ds dir ⟨(dirAt σ1 dir).p, (dirAt σ1 dir).nm, (dirAt σ1 dir).d, bv', [⟨p, nm, true⟩]⟩ b) p ⟨p, nm, true, .slice none 0 0, []⟩ b', uf := σ1.uf + 1 }) (.returned (.tuple #[])) w6) := by
    refine ⟨rfl, _, ⟨σ1, HR1.out, bv', b, cf, rfl⟩, ?_, ?_, ?_⟩
    · rw [hσ2] at hF6
      exact hF6
    · have g1 : Grows σ σ1 s w.heap.size := fun k hk => (HG4.out k hk).imp_right (fun h => by omega)
      refine (g1.trans hg45 (by omega)).trans (B' := w.heap.size) (grows_D (p := p) (f' := ⟨p, nm, true, .slice none 0 0, []⟩) (b := cf) ?_ ?_ ?_ ?_ ?_ (fun g hg => by cases hg)) (Nat.le_refl _) <;> rw [hσ2]
    · have k1 : Kept (fun k => σ.own s k) w w4 := (HK3.out.mono (fun _ _ f => f.elim)).trans HK4.out
      have g1 : Grows σ σ1 s w.heap.size := fun k hk => (HG4.out k hk).imp_right (fun h => by omega)
      have k2 := kept_grows k1 g1 hk5
      exact k2.step hkm (fun k hk e => by
        rcases (g1.trans hg45 (by omega)) k (.inr (.inr (.inl e))) with h | h
        · exact h
        · omega)
  have HKM := hid_of hkm
  have HUP := hid_of hup
  clear hbv hF5 hk5 hg45 hb5 hmf5 hmf5d hup hkm hmf6 hF6 HE4 cb0 cb1 cb2 hσ2
  generalize σ2.dm = fm2 at *
  go_upto_region 4 with fail
  refine wp_region_held_drew (S := fun w' => Kept (fun k => k = fm2) w5 w') (by kernel_rfl) hkd5 (fun hHeld => ?_)
  iterate 6
    refine tkn (v := ?_) 0 rfl ?_ ?_; rotate_left 1
    · intro w hSw; obtain ⟨s1, s2, s3, s4, s5⟩ := HSM.out w hSw; go_simp; try with_reducible rfl
    try simp only [Act.put, tdy]
  have hup' := HUP.out
  refine wpAnyH_ready (rs := [6]) (by kernel_rfl) (by simp) ?_
  refine AllReadyH.cons rfl (fun K hK => ?_) AllReadyH.nil
  go_simp
  refine hK.out _ _ HKM.out (fun hHeld => ?_)
  clear hK K
  try simp only [Act.put, tdy]
  refine wpAnyH_done (by kernel_rfl) ?_ _
  clear hHeld
  go_wp2
  exact bodyPost_end (results_none rfl _ _ _) rfl HEND.out
end Go.Proofs.Ytmkfjdfpcjkmnaa

/-
  Directories and files made.
-/
import Derived.Test.YtmkfjdfpcjkmnaaVn
namespace Go.Proofs.Ytmkfjdfpcjkmnaa
open Go.RowKit
set_option linter.unusedVariables false
set_option linter.unusedSimpArgs false
set_option maxRecDepth 100000

theorem upF0 (p nm : By) : cF.val ⟨p, nm, .slice none 0 0, []⟩ = .agg #[.string ⟨p.toArray⟩, .string ⟨nm.toArray⟩, .bool false, .slice none 0 0] := rfl
/-- What an FS has behind a step it had ahead of it, or it is new. -/
def Grows (σ σ' : FSt) (s B : Nat) : Prop := ∀ k, σ'.own s k → σ.own s k ∨ B ≤ k
theorem Grows.refl (σ : FSt) (s B : Nat) : Grows σ σ s B := fun _ h => .inl h
theorem Grows.trans {σ σ1 σ2 : FSt} {s B B' : Nat} (h : Grows σ σ1 s B) (h' : Grows σ1 σ2 s B') (hB : B ≤ B') : Grows σ σ2 s B := fun k hk => by
  rcases h' k hk with h1 | h1
  · exact h k h1
  · exact .inr (by omega)
theorem grows_lays {κ α : Type} [DecidableEq κ] (bk : α → Option Nat) (d : κ) (a : α) (b : Nat) : ∀ (l : List (Me κ α)) (q : Nat), q ∈ ((lays l d a b).filterMap fun e => bk e.a) → bk a = some q ∨ q ∈ (l.filterMap fun e => bk e.a)
  | [], q, h => by
    rw [lays] at h
    obtain ⟨e, he, hb⟩ := List.mem_filterMap.1 h
    rw [List.mem_singleton] at he
    subst he
    exact .inl hb
  | x :: l, q, h => by
    obtain ⟨e, he, hb⟩ := List.mem_filterMap.1 h
    rcases lays_mem _ _ _ _ _ he with ⟨_, h1⟩ | h1
    · rw [h1] at hb; exact .inl hb
    · exact .inr (List.mem_filterMap.2 ⟨e, h1, hb⟩)
theorem grows_F {σ σ' : FSt} {s B : Nat} {p : By} {f' : Fi} {b : Nat} (h1 : σ'.fm = σ.fm) (h2 : σ'.dm = σ.dm) (h3 : σ'.hm = σ.hm) (h4 : σ'.fs = lays σ.fs p f' b) (h5 : σ'.ds = σ.ds) (hg : ∀ g, f'.dv.ownBlock = some g → σ.own s g ∨ B ≤ g) : Grows σ σ' s B := fun k hk => by
  unfold FSt.own at hk
  rw [h1, h2, h3, h4, h5] at hk
  rcases hk with h | h | h | h | h | h
  · exact .inl (.inl h)
  · exact .inl (.inr (.inl h))
  · exact .inl (.inr (.inr (.inl h)))
  · exact .inl (.inr (.inr (.inr (.inl h))))
  · rcases grows_lays (fun f : Fi => f.dv.ownBlock) p f' b σ.fs k h with h | h
    · exact hg k h
    · exact .inl (.inr (.inr (.inr (.inr (.inl h)))))
  · exact .inl (.inr (.inr (.inr (.inr (.inr h)))))
theorem grows_D {σ σ' : FSt} {s B : Nat} {p : By} {f' : Di} {b : Nat} (h1 : σ'.fm = σ.fm) (h2 : σ'.dm = σ.dm) (h3 : σ'.hm = σ.hm) (h4 : σ'.fs = σ.fs) (h5 : σ'.ds = lays σ.ds p f' b) (hg : ∀ g, f'.bv.ownBlock = some g → σ.own s g ∨ B ≤ g) : Grows σ σ' s B := fun k hk => by
  unfold FSt.own at hk
  rw [h1, h2, h3, h4, h5] at hk
  rcases hk with h | h | h | h | h | h
  · exact .inl (.inl h)
  · exact .inl (.inr (.inl h))
  · exact .inl (.inr (.inr (.inl h)))
  · exact .inl (.inr (.inr (.inr (.inl h))))
  · exact .inl (.inr (.inr (.inr (.inr (.inl h)))))
  · rcases grows_lays (fun f : Di => f.bv.ownBlock) p f' b σ.ds k h with h | h
    · exact hg k h
    · exact .inl (.inr (.inr (.inr (.inr (.inr h)))))
theorem kept_grows {σ σ1 : FSt} {s : Nat} {w w1 w2 : World} (h1 : Kept (fun k => σ.own s k) w w1) (hg : Grows σ σ1 s w.heap.size) (h2 : Kept (fun k => σ1.own s k) w1 w2) : Kept (fun k => σ.own s k) w w2 := h1.step h2 (fun k hk e => by
  rcases hg k e with h | h
  · exact h
  · omega)

set_option maxHeartbeats 2000000 in
theorem makedir_there {w : World} {s : Nat} {σ : FSt} (H : Fs w s σ) (p : By) (h : isDirB σ p = true) :
    Calls Try.prog 57 #[.pointer (some ⟨s, 0, none⟩), .string ⟨p.toArray⟩] w fun e w' => e = .returned (.tuple #[]) ∧ Kept (fun _ => False) w w' := by
  have HD := hid_of (isdir_any H p)
  rw [h] at HD
  clear H h
  go_enter Try.func57, Try.ntmps57
  go_wp2_with fail
  refine HD.out.mono ?_
  rintro e w1 ⟨rfl, hk1⟩
  have HK := hid_of hk1
  clear hk1 HD
  go_wp2
  exact body_retv rfl rfl ⟨rfl, HK.out⟩
/-- Behind a directory or file made: the state, and what it has is its own. -/
def MadeR (w : World) (s : Nat) (σ : FSt) (R : FSt → Prop) (e : Ending) (w' : World) : Prop :=
  e = .returned (.tuple #[]) ∧ ∃ σ', R σ' ∧ Fs w' s σ' ∧ Grows σ σ' s w.heap.size ∧ Kept (fun k => σ.own s k) w w'
set_option maxHeartbeats 4000000 in
theorem makefile_any (HR : HighRunes) {w : World} {s : Nat} {σ : FSt} (H : Fs w s σ) (p : By) (hp : p.length ≤ 16777216) (R : FSt → Prop) (HM : ∀ W, Kept (fun _ => False) w W → Calls Try.prog 57 #[.pointer (some ⟨s, 0, none⟩), .string ⟨(splitOf p).1.toArray⟩] W fun e w' => MadeR W s σ R e w') (hR : ∀ σ1, R σ1 → (dirAt σ1 (splitOf p).1).bl = [] ∧ 0 ≤ σ1.uf ∧ σ1.uf ≤ 1099511627776) :
    Calls Try.prog 41 #[.pointer (some ⟨s, 0, none⟩), .string ⟨p.toArray⟩] w fun e w' => MadeR w s σ (fun σ' => ∃ σ1, R σ1 ∧ ∃ bv' b b', σ' = { σ1 with ds := lays σ1.ds (splitOf p).1 ⟨(dirAt σ1 (splitOf p).1).p, (dirAt σ1 (splitOf p).1).nm, (dirAt σ1 (splitOf p).1).d, bv', [⟨p, (splitOf p).2.1, false⟩]⟩ b, uf := σ1.uf + 1, fs := lays σ1.fs p ⟨p, (splitOf p).2.1, .slice none 0 0, []⟩ b' }) e w' := by
  obtain ⟨dir, hdir⟩ : ∃ d, d = (splitOf p).1 := ⟨_, rfl⟩
  obtain ⟨nm, hnm⟩ : ∃ d, d = (splitOf p).2.1 := ⟨_, rfl⟩
  have HSA := hid_of (fun W => spotat_any HR p hp false W)
  have HAB := hid_of (fun W => above_any HR p hp ⟨nm.toArray⟩ false W)
  have HEN := hid_of (fun (W : World) σ1 (h1 : Fs W s σ1) (h2 : R σ1) => enter0 HR h1 ⟨p, nm, false⟩ hp (hR σ1 h2).1 (hR σ1 h2).2.1 (hR σ1 h2).2.2)
  rw [← hdir] at HAB HM
  rw [← hnm] at HSA
  simp only [← hdir] at HEN
  simp only [← hdir, ← hnm]
  have HMD := hid_of HM
  have HF := hid_of H
  obtain ⟨pp, hpp⟩ : ∃ q : ByteArray, q = ⟨p.toArray⟩ := ⟨_, rfl⟩
  obtain ⟨nn, hnn⟩ : ∃ q : ByteArray, q = ⟨nm.toArray⟩ := ⟨_, rfl⟩
  obtain ⟨dd, hdd⟩ : ∃ q : ByteArray, q = ⟨dir.toArray⟩ := ⟨_, rfl⟩
  simp only [← hpp, ← hnn] at HEN
  rw [← hpp, ← hnn] at HSA HAB
  rw [← hdd] at HAB HMD
  rw [← hpp]
  have HPP := hid_of hpp
  have HNN := hid_of hnn
  clear H HM hR hdir hnm hpp hnn hdd
  go_enter Try.func41, Try.ntmps41
  go_wp2_with fail
  refine (HSA.out _).mono ?_
  rintro e w1 ⟨rfl, hk1⟩
  have hk2 : Kept (fun _ => False) w (w1.alloc (.cells #[.string pp, .string nn, .bool false, .slice none 0 0] 99)) := hk1.trans ((Kept.refl _ w1).alloc _)
  have hb2 : (w1.alloc (.cells #[.string pp, .string nn, .bool false, .slice none 0 0] 99)).heap[w1.heap.size]? = some (.cells #[.string pp, .string nn, .bool false, .slice none 0 0] 99 (0, 0)) := alloc_new _ _ rfl
  have HK2 := hid_of hk2
  have HB2 := hid_of hb2
  have hs1 : w.heap.size ≤ w1.heap.size := hk1.size
  clear hk1 hk2 hb2 HSA
  go_wp2_with fail
  refine (HAB.out _).mono ?_
  rintro e w3 ⟨rfl, hk3⟩
  have HM3 := hid_of (HMD.out w3 (HK2.out.trans hk3))
  have HK3 := hid_of (HK2.out.trans hk3)
  have HB3 : Hid (w3.heap[w1.heap.size]? = some (.cells #[.string pp, .string nn, .bool false, .slice none 0 0] 99 (0, 0))) := (hk3.block _ (heap_lt HB2.out) (fun f => f)).trans HB2.out
  clear hk3 HAB HMD HK2 HB2
  go_wp2_with fail
  refine HM3.out.mono ?_
  rintro e w4 ⟨rfl, σ1, hR1, hF4, hg4, hk4⟩
  have hs3 := HK3.out.size
  have hnq : ∀ k, σ.own s k → k < w.heap.size := fun k hk => HF.out.lt hk
  have hb4 : w4.heap[w1.heap.size]? = some (.cells #[.string pp, .string nn, .bool false, .slice none 0 0] 99 (0, 0)) := (hk4.block _ (heap_lt HB3.out) (fun e => by have := hnq _ e; omega)).trans HB3.out
  have hq1 : ¬ σ1.own s w1.heap.size := fun e => by
    rcases hg4 _ e with h | h
    · have := hnq _ h; omega
    · have := heap_lt HB3.out; omega
  have cb0 : w4.cell? ⟨w1.heap.size, 0, none⟩ = some (.string pp) := (cell_block _ _ 0 _ _ _ hb4).trans rfl
  have cb1 : w4.cell? ⟨w1.heap.size, 1, none⟩ = some (.string nn) := (cell_block _ _ 1 _ _ _ hb4).trans rfl
  have cb2 : w4.cell? ⟨w1.heap.size, 2, none⟩ = some (.bool false) := (cell_block _ _ 2 _ _ _ hb4).trans rfl
  have HE4 := hid_of (HEN.out w4 σ1 hF4 hR1)
  have HK4 := hid_of hk4
  have HG4 := hid_of hg4
  have HB4 := hid_of hb4
  have HR1 := hid_of hR1
  have HF4 := hid_of hF4
  clear hR1 hF4 hg4 hk4 hb4 HM3 HEN HB3
  go_wp2_with fail
  refine HE4.out.mono ?_
  rintro e w5 ⟨rfl, bv', b, hbv, hF5, hk5⟩
  obtain ⟨σ2, hσ2⟩ : ∃ x : FSt, x = { σ1 with ds := lays σ1.ds dir ⟨(dirAt σ1 dir).p, (dirAt σ1 dir).nm, (dirAt σ1 dir).d, bv', [⟨p, nm, false⟩]⟩ b, uf := σ1.uf + 1 } := ⟨_, rfl⟩
  rw [← hσ2] at hF5
  have hg45 : Grows σ1 σ2 s w4.heap.size := grows_D (p := dir) (f' := ⟨(dirAt σ1 dir).p, (dirAt σ1 dir).nm, (dirAt σ1 dir).d, bv', [⟨p, nm, false⟩]⟩) (b := b) (by rw [hσ2]) (by rw [hσ2]) (by rw [hσ2]) (by rw [hσ2]) (by rw [hσ2]) hbv
  have hb5 : w5.heap[w1.heap.size]? = some (.cells #[.string pp, .string nn, .bool false, .slice none 0 0] 99 (0, 0)) := (hk5.block _ (heap_lt HB4.out) hq1).trans HB4.out
  have hs4 := HK4.out.size
  have hq2 : ¬ σ2.own s w1.heap.size := fun e => by
    rcases hg45 _ e with h | h
    · exact hq1 h
    · have := heap_lt HB4.out; omega
  obtain ⟨cf, hmf5⟩ := hF5.mf
  have hkd5 : Kept (fun k => k = σ2.fm) w5 w5.drew := (Kept.refl _ w5).drew
  have hmf5d : w5.drew.heap[σ2.fm]? = some (.map (σ2.fs.map cF.ent).toArray cf) := hmf5
  obtain ⟨cf', hup⟩ := run_lay fitsF w5.drew σ2.fm cf σ2.fs hmf5d p ⟨p, nm, .slice none 0 0, []⟩
  have hfm : σ2.fm ≠ s ∧ σ2.fm ≠ w1.heap.size := ⟨fun e => hF5.not_s.1 e.symm, fun e => hq2 (.inr (.inl e.symm))⟩
  have c65 : w5.cell? ⟨s, 6, none⟩ = some (.map (some σ2.fm)) := hF5.cell 6 rfl
  have HSM : Hid (∀ w', Kept (fun k => k = σ2.fm) w5 w' → w'.cell? ⟨s, 6, none⟩ = some (.map (some σ2.fm)) ∧ w'.cell? ⟨w1.heap.size, 0, none⟩ = some (.string pp) ∧ w'.cell? ⟨w1.heap.size, 1, none⟩ = some (.string nn) ∧ w'.cell? ⟨w1.heap.size, 2, none⟩ = some (.bool false) ∧ w'.cell? ⟨w1.heap.size, 3, none⟩ = some (.slice none 0 0)) := fun w' hw =>
    ⟨hw.cell c65 (fun e => hfm.1 e.symm), hw.cell ((cell_block _ _ 0 _ _ _ hb5).trans rfl) (fun e => hfm.2 e.symm), hw.cell ((cell_block _ _ 1 _ _ _ hb5).trans rfl) (fun e => hfm.2 e.symm), hw.cell ((cell_block _ _ 2 _ _ _ hb5).trans rfl) (fun e => hfm.2 e.symm), hw.cell ((cell_block _ _ 3 _ _ _ hb5).trans rfl) (fun e => hfm.2 e.symm)⟩
  obtain ⟨w6, hw6⟩ : ∃ W, W = World.over w5.drew σ2.fm (.map ((lays σ2.fs p ⟨p, nm, .slice none 0 0, []⟩ cf).map cF.ent).toArray cf') := ⟨_, rfl⟩
  rw [← hw6, upF0, show cF.enc p = .string ⟨p.toArray⟩ from rfl, ← HPP.out, ← HNN.out] at hup
  have hkm : Kept (fun k => k = σ2.fm) w5 w6 := by rw [hw6]; exact hkd5.trans (kept_over _ _ _)
  have hmf6 : w6.heap[σ2.fm]? = some (.map ((lays σ2.fs p ⟨p, nm, .slice none 0 0, []⟩ cf).map cF.ent).toArray cf') := by rw [hw6]; exact over_same _ _ _ (heap_lt hmf5d)
  clear hw6
  have hF6 : Fs w6 s { σ2 with fs := lays σ2.fs p ⟨p, nm, .slice none 0 0, []⟩ cf, ub := σ2.ub } := Fs.setF hF5 p ⟨p, nm, .slice none 0 0, []⟩ cf σ2.ub (fun _ => False) (fun q hq _ => hq.elim) (hkm.mono (fun k _ e => .inr (.inl e))) ((hkm.block s (heap_lt hF5.blk) (fun e => hfm.1 e.symm)).trans hF5.blk) ⟨cf', hmf6⟩ lays_nil (by simp) (fun q hq => by cases hq)
  have HEND : Hid (MadeR w s σ (fun σ' => ∃ σ1, R σ1 ∧ ∃ bv' b b', σ' = { σ1 with ds := lays σ1.ds dir ⟨(dirAt σ1 dir).p, (dirAt σ1 dir).nm, (dirAt σ1 dir).d, bv', [⟨p, nm, false⟩]⟩ b, uf := σ1.uf + 1, fs := lays σ1.fs p ⟨p, nm, .slice none 0 0, []⟩ b' }) (.returned (.tuple #[])) w6) := by
    refine ⟨rfl, _, ⟨σ1, HR1.out, bv', b, cf, rfl⟩, ?_, ?_, ?_⟩
    · rw [hσ2] at hF6
      exact hF6
    · have g1 : Grows σ σ1 s w.heap.size := fun k hk => (HG4.out k hk).imp_right (fun h => by omega)
      refine (g1.trans hg45 (by omega)).trans (B' := w.heap.size) (grows_F (p := p) (f' := ⟨p, nm, .slice none 0 0, []⟩) (b := cf) ?_ ?_ ?_ ?_ ?_ (fun g hg => by cases hg)) (Nat.le_refl _) <;> rw [hσ2]
    · have k1 : Kept (fun k => σ.own s k) w w4 := (HK3.out.mono (fun _ _ f => f.elim)).trans HK4.out
      have g1 : Grows σ σ1 s w.heap.size := fun k hk => (HG4.out k hk).imp_right (fun h => by omega)
      have k2 := kept_grows k1 g1 hk5
      exact k2.step hkm (fun k hk e => by
        rcases (g1.trans hg45 (by omega)) k (.inr (.inl e)) with h | h
        · exact h
        · omega)
  have HKM := hid_of hkm
  have HUP := hid_of hup
  clear hbv hF5 hk5 hg45 hb5 hmf5 hmf5d hup hkm hmf6 hF6 HE4 cb0 cb1 cb2 hσ2
  generalize σ2.fm = fm2 at *
  go_upto_region 3 with fail
  refine wp_region_held_drew (S := fun w' => Kept (fun k => k = fm2) w5 w') (by kernel_rfl) hkd5 (fun hHeld => ?_)
  iterate 6
    refine tkn (v := ?_) 0 rfl ?_ ?_; rotate_left 1
    · intro w hSw; obtain ⟨s1, s2, s3, s4, s5⟩ := HSM.out w hSw; go_simp; try with_reducible rfl
    try simp only [Act.put, tdy]
  have hup' := HUP.out
  refine wpAnyH_ready (rs := [6]) (by kernel_rfl) (by simp) ?_
  refine AllReadyH.cons rfl (fun K hK => ?_) AllReadyH.nil
  go_simp
  refine hK.out _ _ HKM.out (fun hHeld => ?_)
  clear hK K
  try simp only [Act.put, tdy]
  refine wpAnyH_done (by kernel_rfl) ?_ _
  clear hHeld
  go_wp2
  exact bodyPost_end (results_none rfl _ _ _) rfl HEND.out
end Go.Proofs.Ytmkfjdfpcjkmnaa

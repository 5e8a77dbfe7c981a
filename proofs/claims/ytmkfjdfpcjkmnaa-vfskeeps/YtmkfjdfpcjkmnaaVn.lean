/-
  Directories entered, directories and files made.
-/
import Derived.Test.YtmkfjdfpcjkmnaaVm
namespace Go.Proofs.Ytmkfjdfpcjkmnaa
open Go.RowKit
set_option linter.unusedVariables false
set_option linter.unusedSimpArgs false
set_option maxRecDepth 100000

/-- The directory at a path, or one with nothing in it. -/
def dirAt (σ : FSt) (p : By) : Di := (look σ.ds p).getD ⟨[], [], false, .slice none 0 0, []⟩
theorem lookD0 (σ : FSt) (p : By) : lookV cD zF σ.ds p = .agg #[.string ⟨(dirAt σ p).p.toArray⟩, .string ⟨(dirAt σ p).nm.toArray⟩, .bool (dirAt σ p).d, (dirAt σ p).bv] := by
  unfold lookV dirAt
  cases look σ.ds p with
  | none => rfl
  | some D => rfl
theorem Fs.dirRow {w : World} {s : Nat} {σ : FSt} (H : Fs w s σ) (p : By) : w.ownsRow 0 97 3 (dirAt σ p).bv (dirAt σ p).bl.length (spots (dirAt σ p).bl) := by
  unfold dirAt
  cases h : look σ.ds p with
  | none => exact ⟨rfl, .inl ⟨rfl, rfl⟩⟩
  | some D =>
    obtain ⟨e, he, _, rfl⟩ := look_there h
    exact H.rd e he
theorem dirOwn {σ : FSt} {p : By} {s g : Nat} (hg : (dirAt σ p).bv.ownBlock = some g) : ∃ D, look σ.ds p = some D ∧ D.bv.ownBlock = some g ∧ g ∈ rowsD σ.ds := by
  unfold dirAt at hg
  cases h : look σ.ds p with
  | none => rw [h] at hg; cases hg
  | some D =>
    rw [h] at hg
    obtain ⟨e, he, _, rfl⟩ := look_there h
    exact ⟨_, rfl, hg, rowsD_mem he hg⟩
def EnterR (w : World) (s : Nat) (σ : FSt) (dir : By) (sp : Sp) (e : Ending) (w' : World) : Prop :=
  e = .returned (.tuple #[]) ∧ ∃ bv' b, (∀ g, bv'.ownBlock = some g → σ.own s g ∨ w.heap.size ≤ g) ∧ Fs w' s { σ with ds := lays σ.ds dir ⟨(dirAt σ dir).p, (dirAt σ dir).nm, (dirAt σ dir).d, bv', [sp]⟩ b, uf := σ.uf + 1 } ∧ Kept (fun k => σ.own s k) w w'
set_option maxHeartbeats 4000000 in
theorem enter0 (HR : HighRunes) {w : World} {s : Nat} {σ : FSt} (H : Fs w s σ) (sp : Sp) (hp : sp.p.length ≤ 16777216) (hbl : (dirAt σ (splitOf sp.p).1).bl = []) (hu0 : 0 ≤ σ.uf) (hu1 : σ.uf ≤ 1099511627776) :
    Calls Try.prog 69 #[.pointer (some ⟨s, 0, none⟩), .agg #[.string ⟨sp.p.toArray⟩, .string ⟨sp.nm.toArray⟩, .bool sp.d]] w fun e w' => EnterR w s σ (splitOf sp.p).1 sp e w' := by
  obtain ⟨dir, hdir⟩ : ∃ d, d = (splitOf sp.p).1 := ⟨_, rfl⟩
  have HAB := hid_of (fun W => above_any HR sp.p hp ⟨sp.nm.toArray⟩ sp.d W)
  rw [← hdir] at HAB hbl
  rw [← hdir]
  clear hdir
  have hrow := H.dirRow dir
  rw [hbl] at hrow
  obtain ⟨ao, c, hv⟩ := row_slice hrow
  have HL := hid_of (fun (W : World) (hW : Kept (fun _ => False) w W) => (H.same hW).lookD dir false)
  rw [lookD0, hv] at HL
  have HTK := hid_of (fun (W : World) (q : Nat) (a b : ByteArray) (d : Bool) hb ho => take0 W q a b d (.slice ao 0 c) sp hb ho)
  obtain ⟨a1, ha1⟩ : ∃ q : ByteArray, q = ⟨(dirAt σ dir).p.toArray⟩ := ⟨_, rfl⟩
  obtain ⟨a2, ha2⟩ : ∃ q : ByteArray, q = ⟨(dirAt σ dir).nm.toArray⟩ := ⟨_, rfl⟩
  obtain ⟨a3, ha3⟩ : ∃ q : Bool, q = (dirAt σ dir).d := ⟨_, rfl⟩
  rw [← ha1, ← ha2, ← ha3] at HL
  obtain ⟨p1, hp1⟩ : ∃ q : ByteArray, q = ⟨sp.p.toArray⟩ := ⟨_, rfl⟩
  obtain ⟨p2, hp2⟩ : ∃ q : ByteArray, q = ⟨sp.nm.toArray⟩ := ⟨_, rfl⟩
  obtain ⟨p3, hp3⟩ : ∃ q : Bool, q = sp.d := ⟨_, rfl⟩
  rw [← hp1, ← hp2, ← hp3] at HAB HTK
  rw [← hp1, ← hp2, ← hp3]
  obtain ⟨dd, hdd⟩ : ∃ q : ByteArray, q = ⟨dir.toArray⟩ := ⟨_, rfl⟩
  rw [← hdd] at HAB HL
  have HA1 := hid_of ha1
  have HA2 := hid_of ha2
  have HA3 := hid_of ha3
  have HDD := hid_of hdd
  have HF := hid_of H
  have HROW := hid_of hrow
  have HV := hid_of hv
  have HK1 : Hid (Kept (fun _ => False) w (w.alloc (.cells #[.string p1, .string p2, .bool p3] 97))) := (Kept.refl _ w).alloc _
  have HB1 : Hid ((w.alloc (.cells #[.string p1, .string p2, .bool p3] 97)).heap[w.heap.size]? = some (.cells #[.string p1, .string p2, .bool p3] 97 (0, 0))) := alloc_new _ _ rfl
  clear H hrow hv ha1 ha2 ha3 hp1 hp2 hp3 hdd hbl
  go_enter Try.func69, Try.ntmps69
  go_wp2_with fail
  refine (HAB.out _).mono ?_
  rintro e w2 ⟨rfl, hk2⟩
  have hK02 := HK1.out.trans hk2
  have hF2 := HF.out.same hK02
  have c7 := hF2.cell 7 (v := .map (some σ.dm)) rfl
  have hl2 := HL.out w2 hK02
  rw [if_neg (by simp)] at hl2
  have hb2 : w2.heap[w.heap.size]? = some (.cells #[.string p1, .string p2, .bool p3] 97 (0, 0)) := (hk2.block _ (heap_lt HB1.out) (fun f => f)).trans HB1.out
  have hk3 : Kept (fun _ => False) w2 (w2.alloc (.cells #[.string a1, .string a2, .bool a3, .slice ao 0 c] 103)) := (Kept.refl _ w2).alloc _
  have hb3 : (w2.alloc (.cells #[.string a1, .string a2, .bool a3, .slice ao 0 c] 103)).heap[w2.heap.size]? = some (.cells #[.string a1, .string a2, .bool a3, .slice ao 0 c] 103 (0, 0)) := alloc_new _ _ rfl
  have hb3r : (w2.alloc (.cells #[.string a1, .string a2, .bool a3, .slice ao 0 c] 103)).heap[w.heap.size]? = some (.cells #[.string p1, .string p2, .bool p3] 97 (0, 0)) := alloc_old hb2
  have cr0 : (w2.alloc (.cells #[.string a1, .string a2, .bool a3, .slice ao 0 c] 103)).cell? ⟨w.heap.size, 0, none⟩ = some (.string p1) := (cell_block _ _ 0 _ _ _ hb3r).trans rfl
  have cr1 : (w2.alloc (.cells #[.string a1, .string a2, .bool a3, .slice ao 0 c] 103)).cell? ⟨w.heap.size, 1, none⟩ = some (.string p2) := (cell_block _ _ 1 _ _ _ hb3r).trans rfl
  have cr2 : (w2.alloc (.cells #[.string a1, .string a2, .bool a3, .slice ao 0 c] 103)).cell? ⟨w.heap.size, 2, none⟩ = some (.bool p3) := (cell_block _ _ 2 _ _ _ hb3r).trans rfl
  have HK3 := hid_of (hK02.trans hk3)
  have HB3 := hid_of hb3
  have hro : w2.alloc (.cells #[.string a1, .string a2, .bool a3, .slice ao 0 c] 103) |>.ownsRow 0 97 3 (.slice ao 0 c) 0 [] := by
    have h9 := HROW.out
    rw [HV.out] at h9
    exact HK3.out.ownsRow h9 (fun _ _ f => f)
  have HTK3 := hid_of (HTK.out _ _ _ _ _ hb3 hro)
  have hs2 : w.heap.size ≤ w2.heap.size := hK02.size
  have hs2' : w.heap.size < w2.heap.size := by have := heap_lt hb2; omega
  have hz3 : (w2.alloc (.cells #[.string a1, .string a2, .bool a3, .slice ao 0 c] 103)).heap.size = w2.heap.size + 1 := by simp
  clear hk2 hF2 hb2 hk3 hb3 hb3r HAB HL HTK hK02 hro
  go_wp2_with fail
  generalize w2.alloc (.cells #[.string a1, .string a2, .bool a3, .slice ao 0 c] 103) = w3 at *
  clear cr0 cr1 cr2 c7 hl2
  refine HTK3.out.mono ?_
  rintro e w4 ⟨rfl, bv', hb4, ho4, hbk4, hk4⟩
  obtain ⟨ao4, c4, hv4⟩ := row_slice ho4
  subst hv4
  have hnq : ∀ k, σ.own s k → k ≠ w2.heap.size := fun k hk e => by have := HF.out.lt hk; omega
  have hF3 := HF.out.same HK3.out
  have hnown : ∀ g, (Value.slice ao 0 c).ownBlock = some g → ∃ D, look σ.ds dir = some D ∧ D.bv.ownBlock = some g ∧ g ∈ rowsD σ.ds := fun g hg => dirOwn (s := s) (by rw [HV.out]; exact hg)
  obtain ⟨cd, hmd3⟩ := hF3.md
  have hdm : σ.dm ≠ w2.heap.size ∧ ¬ (Value.slice ao 0 c).ownBlock = some σ.dm ∧ σ.dm ≠ s := ⟨hnq _ (.inr (.inr (.inl rfl))), fun e => (hF3.not_m hmd3).2.2 (hnown _ e).choose_spec.2.2, fun e => hF3.not_s.2.1 e.symm⟩
  have hsn : s ≠ w2.heap.size ∧ ¬ (Value.slice ao 0 c).ownBlock = some s := ⟨hnq _ (.inl rfl), fun e => hF3.not_s.2.2.2.2 (hnown _ e).choose_spec.2.2⟩
  have hmd4 : w4.heap[σ.dm]? = some (.map (σ.ds.map cD.ent).toArray cd) := (hk4.block _ (heap_lt hmd3) (fun e => e.elim hdm.1 hdm.2.1)).trans hmd3
  have hbs4 : w4.heap[s]? = some (.cells σ.cells 76 (0, 0)) := (hk4.block s (heap_lt hF3.blk) (fun e => e.elim hsn.1 hsn.2)).trans hF3.blk
  have hkd4 : Kept (fun k => k = σ.dm) w4 w4.drew := (Kept.refl _ w4).drew
  have hmd4d : w4.drew.heap[σ.dm]? = some (.map (σ.ds.map cD.ent).toArray cd) := hmd4
  obtain ⟨cd', hup⟩ := run_lay fitsD w4.drew σ.dm cd σ.ds hmd4d dir ⟨(dirAt σ dir).p, (dirAt σ dir).nm, (dirAt σ dir).d, .slice ao4 1 c4, [sp]⟩
  obtain ⟨w5, hw5⟩ : ∃ W, W = World.over w4.drew σ.dm (.map ((lays σ.ds dir ⟨(dirAt σ dir).p, (dirAt σ dir).nm, (dirAt σ dir).d, .slice ao4 1 c4, [sp]⟩ cd).map cD.ent).toArray cd') := ⟨_, rfl⟩
  rw [← hw5] at hup
  rw [show cD.val ⟨(dirAt σ dir).p, (dirAt σ dir).nm, (dirAt σ dir).d, .slice ao4 1 c4, [sp]⟩ = .agg #[.string ⟨(dirAt σ dir).p.toArray⟩, .string ⟨(dirAt σ dir).nm.toArray⟩, .bool (dirAt σ dir).d, .slice ao4 1 c4] from rfl, ← HA1.out, ← HA2.out, ← HA3.out, show cD.enc dir = .string ⟨dir.toArray⟩ from rfl, ← HDD.out] at hup
  have c74 : w4.cell? ⟨s, 7, none⟩ = some (.map (some σ.dm)) := (cell_block _ _ 7 _ _ _ hbs4).trans rfl
  have HSM : Hid (∀ w', Kept (fun k => k = σ.dm) w4 w' → w'.cell? ⟨s, 7, none⟩ = some (.map (some σ.dm)) ∧ w'.cell? ⟨w2.heap.size, 0, none⟩ = some (.string a1) ∧ w'.cell? ⟨w2.heap.size, 1, none⟩ = some (.string a2) ∧ w'.cell? ⟨w2.heap.size, 2, none⟩ = some (.bool a3) ∧ w'.cell? ⟨w2.heap.size, 3, none⟩ = some (.slice ao4 1 c4)) := fun w' hw =>
    ⟨hw.cell c74 (fun e => hdm.2.2 e.symm), hw.cell ((cell_block _ _ 0 _ _ _ hb4).trans rfl) (fun e => hdm.1 e.symm), hw.cell ((cell_block _ _ 1 _ _ _ hb4).trans rfl) (fun e => hdm.1 e.symm), hw.cell ((cell_block _ _ 2 _ _ _ hb4).trans rfl) (fun e => hdm.1 e.symm), hw.cell ((cell_block _ _ 3 _ _ _ hb4).trans rfl) (fun e => hdm.1 e.symm)⟩
  have hkm : Kept (fun k => k = σ.dm) w4 w5 := by rw [hw5]; exact hkd4.trans (kept_over _ _ _)
  have hmd5 : w5.heap[σ.dm]? = some (.map ((lays σ.ds dir ⟨(dirAt σ dir).p, (dirAt σ dir).nm, (dirAt σ dir).d, .slice ao4 1 c4, [sp]⟩ cd).map cD.ent).toArray cd') := by rw [hw5]; exact over_same _ _ _ (heap_lt hmd4d)
  clear hw5
  have hdq : ∀ g, (Value.slice ao4 1 c4).ownBlock = some g → g = w2.heap.size ∨ (Value.slice ao 0 c).ownBlock = some g ∨ w3.heap.size ≤ g := fun g hg => by
    rcases hbk4 with e | ⟨g', e, hle⟩
    · have e' := e.symm.trans hg; exact .inr (.inl e')
    · have e' := e.symm.trans hg; cases e'; exact .inr (.inr hle)
  have hk35 : Kept (fun k => k = σ.dm ∨ (k = w2.heap.size ∨ (Value.slice ao 0 c).ownBlock = some k ∨ w3.heap.size ≤ k)) w3 w5 := (hk4.mono (fun k _ e => by
      rcases e with e | e
      · exact .inr (.inl e)
      · exact .inr (.inr (.inl e)))).trans (hkm.mono (fun k _ e => .inl e))
  have hF5 : Fs w5 s { σ with ds := lays σ.ds dir ⟨(dirAt σ dir).p, (dirAt σ dir).nm, (dirAt σ dir).d, .slice ao4 1 c4, [sp]⟩ cd } := Fs.setD hF3 dir _ cd (fun k => k = w2.heap.size ∨ (Value.slice ao 0 c).ownBlock = some k ∨ w3.heap.size ≤ k) (fun q hq ho => by
      rcases hq with hq | hq | hq
      · exact absurd hq (hnq q ho)
      · obtain ⟨D, h1, h2, _⟩ := hnown q hq
        exact ⟨D, h1, h2⟩
      · have := hF3.lt ho
        omega) hk35 ⟨cd', hmd5⟩ (hkm.ownsRow ho4 (fun g hg e => by
          subst e
          rcases hdq _ hg with h | h | h
          · exact hdm.1 h
          · exact hdm.2.1 h
          · have h9 : σ.dm < w3.heap.size := heap_lt hmd3
            omega)) hdq
  have hK05 : Kept (fun k => σ.own s k) w w5 := (HK3.out.mono (fun _ _ f => f.elim)).step hk35 (fun k hk e => by
    rcases e with e | e | e | e
    · exact .inr (.inr (.inl e))
    · omega
    · obtain ⟨D, _, _, h3⟩ := hnown k e
      exact .inr (.inr (.inr (.inr (.inr h3))))
    · omega)
  have c45 := hF5.cell 4 (v := .int .i64 σ.uf) rfl
  have f45 : w5.frozen? ⟨s, 4, none⟩ = false := frozen_block _ _ 4 _ _ hF5.blk
  have wr1 : IntKind.i64.wrap (σ.uf + 1) = σ.uf + 1 := by rw [IntKind.wrap_i64]; omega
  have HEND : Hid (EnterR w s σ dir sp (.returned (.tuple #[])) (w5.setCell ⟨s, 4, none⟩ (.int .i64 (σ.uf + 1)))) := ⟨rfl, _, cd, fun g hg => (by
    have hs3 := HK3.out.size
    rcases hdq g hg with h | h | h
    · exact .inr (by omega)
    · obtain ⟨D, _, _, h3⟩ := hnown g h
      exact .inl (.inr (.inr (.inr (.inr (.inr h3)))))
    · exact .inr (by omega)), hF5.setFl _, Kept.setCell (p := ⟨s, 4, none⟩) hK05 (.inr (.inl rfl)) _⟩
  have HKM := hid_of hkm
  have HUP := hid_of hup
  clear hk4 hb4 ho4 hbk4 hF3 hnown hmd3 hmd4 hbs4 hmd4d hup hkm hmd5 hdq hk35 hF5 hK05 HTK3
  go_upto_region 4 with fail
  refine wp_region_held_drew (S := fun w' => Kept (fun k => k = σ.dm) w4 w') (by kernel_rfl) hkd4 (fun hHeld => ?_)
  iterate 6
    refine tkn (v := ?_) 0 rfl ?_ ?_; rotate_left 1
    · intro w hSw; obtain ⟨s1, s2, s3, s4, s5⟩ := HSM.out w hSw; go_simp; try with_reducible rfl
    try simp only [Act.put, tdy]
  have hup' := HUP.out
  refine wpAnyH_ready (rs := [6]) (by kernel_rfl) (by simp) ?_
  refine AllReadyH.cons rfl (fun K hK => ?_) AllReadyH.nil
  go_simp
  refine hK.out _ _ HKM.out (fun hHeld => ?_)
  clear hK K
  try simp only [Act.put, tdy]
  refine wpAnyH_done (by kernel_rfl) ?_ _
  clear hHeld
  go_wp2
  exact bodyPost_end (results_none rfl _ _ _) rfl HEND.out
end Go.Proofs.Ytmkfjdfpcjkmnaa

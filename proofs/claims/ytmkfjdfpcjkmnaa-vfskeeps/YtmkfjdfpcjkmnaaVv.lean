/-
  What is known ahead of the laws: one file made, written, read.
-/
import Derived.Test.YtmkfjdfpcjkmnaaVu
namespace Go.Proofs.Ytmkfjdfpcjkmnaa
open Go.RowKit
set_option linter.unusedVariables false
set_option linter.unusedSimpArgs false
set_option maxRecDepth 100000

def pAB : By := [97, 47, 98]
def KN (σ : FSt) : Prop := σ.qb = 9 ∧ σ.qf = 2 ∧ σ.qo = 2 ∧ σ.ub = 0 ∧ σ.uf = 2 ∧ σ.uo = 1 ∧ look σ.fs pAB = some ⟨pAB, [98], .slice none 0 0, []⟩ ∧ ∃ b, σ.hs = lays [] 0 ⟨pAB, 0, 1⟩ b
theorem there_made {w : World} {s : Nat} {σ : FSt} (H : Fs w s σ) (p : By) (h : isDirB σ p = true) : Calls Try.prog 57 #[.pointer (some ⟨s, 0, none⟩), .string ⟨p.toArray⟩] w fun e w' => MadeR w s σ (fun x => x = σ) e w' := by
  refine (makedir_there H p h).mono ?_
  rintro e w' ⟨he, hk⟩
  exact ⟨he, σ, rfl, H.same hk, Grows.refl _ _ _, hk.mono (fun _ _ f => f.elim)⟩
theorem open_ab (HR : HighRunes) {w : World} {s fm dm hm : Nat} (H : Fs w s ⟨9, 2, 2, 0, 0, 0, fm, dm, hm, [], [], []⟩) :
    Calls Try.prog 14 #[.pointer (some ⟨s, 0, none⟩), .string ⟨#[97, 47, 46, 47, 98]⟩, .int .i64 5] w fun e w' => OpenR w s ⟨9, 2, 2, 0, 0, 0, fm, dm, hm, [], [], []⟩ 0 KN e w' := by
  have h1 : ∀ W, Kept (fun _ => False) w W → Calls Try.prog 57 #[.pointer (some ⟨s, 0, none⟩), .string ⟨([97] : By).toArray⟩] W fun e w' => MadeR W s ⟨9, 2, 2, 0, 0, 0, fm, dm, hm, [], [], []⟩ _ e w' := fun W hW =>
    makedir_any HR (H.same hW) [97] (by decide) rfl (fun x => x = ⟨9, 2, 2, 0, 0, 0, fm, dm, hm, [], [], []⟩) (fun W' hW' => by
      rw [split_a]
      exact there_made ((H.same hW).same hW') [] rfl) (by
      rintro _ rfl
      exact ⟨rfl, by simp, by simp⟩)
  have h2 : ∀ W, Kept (fun _ => False) w W → Calls Try.prog 41 #[.pointer (some ⟨s, 0, none⟩), .string ⟨pAB.toArray⟩] W fun e w' => MadeR W s ⟨9, 2, 2, 0, 0, 0, fm, dm, hm, [], [], []⟩ _ e w' := fun W hW =>
    makefile_any HR (H.same hW) pAB (by decide) _ (fun W' hW' => by
      rw [show splitOf pAB = ([97], [98], 0) from split_ab]
      exact h1 W' (hW.trans hW')) (by
      rintro _ ⟨_, rfl, bv, b, b', rfl⟩
      rw [show splitOf pAB = ([97], [98], 0) from split_ab]
      rw [split_a]
      exact ⟨rfl, by simp, by simp⟩)
  have h3 : ∀ W, Kept (fun _ => False) w W → Calls Try.prog 39 #[.pointer (some ⟨s, 0, none⟩), .string ⟨pAB.toArray⟩, .int .i64 5] W fun e w' => e = .returned (.int .i64 0) ∧ Kept (fun _ => False) W w' := fun W hW =>
    mayopen_new HR (H.same hW) (fun i => match i with | 0 => pAB | 1 => [97] | _ => []) 2 (by omega) (by omega) (by
      intro i hi
      match i, hi with
      | 0, _ => exact (congrArg Prod.fst split_ab).symm
      | 1, _ => exact (congrArg Prod.fst split_a).symm) (by
      intro i hi
      match i, hi with
      | 0, _ => rfl
      | 1, _ => rfl) rfl rfl (by
      intro i hi
      match i, hi with
      | 0, _ => decide
      | 1, _ => decide
      | 2, _ => decide) 5 (by decide) (.inr rfl) (by simp) (by simp) (by simp) (by simp) (by show ([] : List Sp).length ≠ 1024; decide)
  refine (open_new HR H ⟨#[97, 47, 46, 47, 98]⟩ pAB clean_ab1 5 1 (by decide) (by decide) h3 (by simp) (by simp) (by simp) ⟨pAB, [98], .slice none 0 0, []⟩ rfl _ h2 (by
    rintro _ ⟨_, ⟨_, rfl, bv, b, b', rfl⟩, bv2, b2, b3, rfl⟩
    refine ⟨rfl, rfl, ?_, by simp, by simp⟩
    rw [show splitOf pAB = ([97], [98], 0) from split_ab]
    rfl) (by decide) 0 (by omega) rfl (fun j hj => absurd hj (by omega))).mono ?_
  rintro e w' ⟨he, σ', ⟨_, ⟨_, ⟨_, rfl, bv, b, b', rfl⟩, bv2, b2, b3, rfl⟩, b4, rfl⟩, hF, hg, hk⟩
  refine ⟨he, _, ?_, hF, hg, hk⟩
  refine ⟨rfl, rfl, rfl, rfl, rfl, rfl, ?_, b4, rfl⟩
  show look (lays ([] : List (Me By Fi)) pAB ⟨pAB, (splitOf pAB).2.1, .slice none 0 0, []⟩ b3) pAB = _
  rw [show splitOf pAB = ([97], [98], 0) from split_ab]
  rfl
set_option maxHeartbeats 1600000 in
theorem known_ok (HR : HighRunes) (w : World) : Calls Try.prog 7 #[] w fun e w' => e = .returned (.bool true) ∧ Kept (fun _ => False) w w' := by
  have HN := hid_of (new_nil 9 2 2 (by omega) (by omega) (by omega) (by omega) (by omega) w)
  go_enter Try.func7, Try.ntmps7
  go_wp2_with fail
  refine HN.out.mono ?_
  rintro e w1 ⟨s, fm, dm, hm, rfl, hF1, g1, g2, g3, g4, hk1⟩
  have HO1 := hid_of (open_ab HR hF1)
  have hown : ∀ k, FSt.own ⟨9, 2, 2, 0, 0, 0, fm, dm, hm, [], [], []⟩ s k → w.heap.size ≤ k := by
    rintro k (rfl | rfl | rfl | rfl | hk | hk)
    · exact g1
    · exact g2
    · exact g3
    · exact g4
    · cases hk
    · cases hk
  have HK1 := hid_of hk1
  have HW := hid_of hown
  clear hF1 hown hk1 HN g1 g2 g3 g4
  go_wp2_with fail
  refine HO1.out.mono ?_
  rintro e w2 ⟨rfl, σ, ⟨q1, q2, q3, q4, q5, q6, hf, b1, hh⟩, hF2, hg2, hk2⟩
  have HF2 := hid_of hF2
  have HG2 := hid_of hg2
  have HK2 := hid_of hk2
  have HFF := hid_of hf
  have HH := hid_of hh
  have HQ := hid_of (And.intro q1 (And.intro q3 (And.intro q4 (And.intro q5 q6))))
  clear hF2 hg2 hk2 hf hh q1 q2 q3 q4 q5 q6 HO1
  go_wp2_with fail
  have k3 : Kept (fun _ => False) w2 (w2.alloc (.cells #[.int .u8 7, .int .u8 8] 5)) := (Kept.refl _ w2).alloc _
  have hb3 : (w2.alloc (.cells #[.int .u8 7, .int .u8 8] 5)).heap[w2.heap.size]? = some (.cells #[.int .u8 7, .int .u8 8] 5 (0, 0)) := alloc_new _ _ rfl
  have hF3 := HF2.out.same k3
  refine (write_ok hF3 0 ⟨pAB, 0, 1⟩ (by rw [HH.out]; rfl) (by decide) ⟨pAB, [98], .slice none 0 0, []⟩ HFF.out [7, 8] w2.heap.size 0 2 (by
    intro j u hj
    rw [cell_block _ _ _ _ _ _ hb3, Nat.zero_add, ← Array.getElem?_toList]
    exact hj) (by decide) (by decide) (fun e => absurd (HF2.out.lt e) (by omega)) 0 rfl (by decide) (by rw [HQ.out.1, HQ.out.2.2.1]; decide) (by rw [HQ.out.2.2.1]; decide) (by rw [HQ.out.1]; decide) (by rw [HQ.out.1, HQ.out.2.2.1]; decide)).mono ?_
  rintro e w4 ⟨rfl, dv, b2, b3, hdv, hF4, hk4⟩
  obtain ⟨σ2, hσ2⟩ : ∃ x : FSt, x = { σ with fs := lays σ.fs pAB ⟨pAB, [98], dv, layB [] 0 [7, 8]⟩ b2, ub := σ.ub - (([] : List Int).length : Int) + ((layB [] 0 [7, 8]).length : Int), hs := lays σ.hs 0 ⟨pAB, ((0 : Nat) : Int) + (([7, 8] : List Int).length : Int), 1⟩ b3 } := ⟨_, rfl⟩
  have hF4' : Fs w4 s σ2 := by
    rw [hσ2]
    exact hF4
  have hf2 : look σ2.fs pAB = some ⟨pAB, [98], dv, [7, 8]⟩ := by
    rw [hσ2]
    show look (lays σ.fs pAB _ b2) pAB = _
    rw [look_lays, if_pos rfl]
    rfl
  have hh2 : ∀ j : Int, look σ2.hs j = if j = 0 then some ⟨pAB, 2, 1⟩ else look σ.hs j := by
    intro j
    rw [hσ2]
    show look (lays σ.hs 0 _ b3) j = _
    rw [look_lays]
    rfl
  have hq2 : σ2.qo = 2 ∧ σ2.ub = 2 ∧ σ2.uf = 2 ∧ σ2.uo = 1 := by
    rw [hσ2]
    refine ⟨HQ.out.2.1, ?_, HQ.out.2.2.2.1, HQ.out.2.2.2.2⟩
    show σ.ub - _ + _ = 2
    rw [HQ.out.2.2.1]
    rfl
  have hg4 : Grows σ σ2 s w2.heap.size := grows_F (p := pAB) (f' := ⟨pAB, [98], dv, layB [] 0 [7, 8]⟩) (b := b2) (by rw [hσ2]) (by rw [hσ2]) (by rw [hσ2]) (by rw [hσ2]) (by rw [hσ2]) (fun g hg => (hdv g hg).imp id (fun h => Nat.le_trans k3.size h))
  have hk24 : Kept (fun k => σ.own s k) w2 w4 := (k3.mono (fun _ _ f => f.elim)).trans hk4
  have hk14 := kept_grows HK2.out HG2.out hk24
  have hg14 := HG2.out.trans hg4 HK2.out.size
  have HO3 := hid_of (open_there HR hF4' ⟨#[97, 47, 98]⟩ pAB clean_ab2 0 0 (by decide) (by decide) (fun W hW => mayopen_there HR (hF4'.same hW) pAB (by decide) (by rw [hf2]; rfl) 0) (by rw [hq2.2.2.2, hq2.1]; decide) (by rw [hq2.2.2.2]; decide) (by rw [hq2.2.2.2]; decide) ⟨pAB, [98], dv, [7, 8]⟩ (by rw [hf2]; rfl) hf2 (by decide) 1 (by omega) (by rw [hh2, HH.out]; rfl) (fun j hj => by
    obtain rfl : j = 0 := by omega
    rw [hh2]
    rfl))
  have HF4 := hid_of hf2
  have HQ4 := hid_of hq2
  have HK4 := hid_of hk14
  have HG4 := hid_of hg14
  clear hF3 hdv hF4 hk4 hσ2 hF4' hf2 hh2 hq2 hg4 hk24 hk14 hg14 HF2 HG2 HK2 HFF HH HQ hb3 k3
  go_wp2_with fail
  refine HO3.out.mono ?_
  rintro e w5 ⟨rfl, σ3, ⟨σ2, rfl, b5, rfl⟩, hF5, hg5, hk5⟩
  have hk15 := kept_grows HK4.out HG4.out hk5
  have hlk : look (withH σ2 1 pAB 0 b5).hs 1 = some ⟨pAB, 0, 0⟩ := by
    show look (lays σ2.hs ((1 : Nat) : Int) ⟨pAB, 0, 0⟩ b5) 1 = _
    rw [look_lays]
    rfl
  have HR5 := hid_of (read_any hF5 1 9 ⟨pAB, 0, 0⟩ hlk rfl (by omega) ⟨pAB, [98], dv, [7, 8]⟩ HF4.out 0 2 rfl (by omega) rfl)
  have hg15 : Grows ⟨9, 2, 2, 0, 0, 0, fm, dm, hm, [], [], []⟩ (withH σ2 1 pAB 0 b5) s w1.heap.size := HG4.out.trans hg5 HK4.out.size
  have HK5 := hid_of hk15
  have HG5 := hid_of hg15
  clear hF5 hg5 hk5 hk15 hg15 hlk HO3 HG4 HK4 HF4
  go_wp2_with fail
  refine HR5.out.mono ?_
  rintro e w6 ⟨v, b6, rfl, hv, hF6, hk6⟩
  have hk16 := kept_grows HK5.out HG5.out hk6
  have hk06 : Kept (fun _ => False) w w6 := HK1.out.step hk16 (fun k hk e => absurd (HW.out k e) (by omega))
  have hK7 : Hid (Kept (fun _ => False) w (w6.alloc (.cells #[.int .u8 7, .int .u8 8] 5))) := hk06.alloc _
  obtain ⟨o1, c1, hve⟩ := row_slice hv
  subst hve
  have hs2 : str [7, 8] = ⟨#[7, 8]⟩ := rfl
  have hc1 := conv_row w6 w5.heap.size (.slice o1 2 c1) [7, 8] hv
  have hc1' := conv_row (w6.alloc (.cells #[.int .u8 7, .int .u8 8] 5)) w5.heap.size (.slice o1 2 c1) [7, 8] (hv.alloc _)
  have hc2 := conv_row (w6.alloc (.cells #[.int .u8 7, .int .u8 8] 5)) 0 (.slice (some ⟨w6.heap.size, 0, none⟩) 2 2) [7, 8] (World.ownsRow_lit w6 #[.int .u8 7, .int .u8 8] 2 (Nat.zero_le _) (by decide) rfl)
  rw [hs2] at hc1 hc1' hc2
  have HU := hid_of (used_any (hF6.same ((Kept.refl _ w6).alloc (.cells #[.int .u8 7, .int .u8 8] 5))))
  have hub : Hid ((withH σ2 1 pAB 0 b5).ub = 2 ∧ (withH σ2 1 pAB 0 b5).uf = 2 ∧ (withH σ2 1 pAB 0 b5).uo = 2) := ⟨HQ4.out.2.1, HQ4.out.2.2.1, by show σ2.uo + 1 = 2; rw [HQ4.out.2.2.2]; rfl⟩
  simp only at HU
  rw [hub.out.1, hub.out.2.1, hub.out.2.2] at HU
  clear hv hF6 hk6 hk16 hk06 HR5 hub HQ4 HG5 HK5
  go_wp2_with fail
  refine HU.out.mono ?_
  rintro e w7 ⟨rfl, hk7⟩
  have HEND := hid_of (hK7.out.trans hk7)
  clear hk7 hK7 HU
  go_wp2
  exact bodyPost_ret (v := .bool true) (by simp [results, Try.results7, go_sem]) rfl ⟨rfl, HEND.out⟩
end Go.Proofs.Ytmkfjdfpcjkmnaa

/-
  TKp: Kp.
-/
import Derived.Test.YtcaadgcfceommaaGreatTKs
namespace Go.Proofs.YtcaadgcfceommaaGreat
open Go.RowKit
set_option linter.unusedVariables false
set_option linter.unusedSimpArgs false
set_option maxRecDepth 100000

def closedI : Int := 9223372036854775807
def finTn (l : List Int) (ts : List Int) : List Int := l.foldl (fun t n => t.set n.toNat closedI) ts
def finAg (b : Bool) (l : List Int) (ag : List Bool) : List Bool := l.foldl (fun t n => t.set n.toNat (t.getD n.toNat false || b)) ag
/-- Those that come to each other are done with. -/
def finP (l : List Int) (σ : TS) : TS := { σ with turns := finTn l σ.turns, order := σ.order ++ l, again := finAg (decide (1 < l.length)) l σ.again }
theorem finTn_snoc (l : List Int) (x : Int) (ts : List Int) : finTn (l ++ [x]) ts = (finTn l ts).set x.toNat closedI := by simp [finTn]
theorem finAg_snoc (b : Bool) (l : List Int) (x : Int) (ag : List Bool) : finAg b (l ++ [x]) ag = (finAg b l ag).set x.toNat ((finAg b l ag).getD x.toNat false || b) := by simp [finAg]
section
variable {w wr W : World} {N a : Nat} {nf : Value} {gt ct : Nat} {vo vr : Value} {ga ca : Nat} {σ : TS}
theorem Tr.putO (h : Tr w wr N a nf gt ct vo vr ga ca σ) {vo' : Value} {l' : List Int} (hk : Kept (fun k => vo.ownBlock = some k) wr W) (ho : OwnN W w.heap.size vo' l') (hb : vo'.ownBlock = vo.ownBlock ∨ ∃ q, vo'.ownBlock = some q ∧ wr.heap.size ≤ q) :
    W.heap[a]? = some (.cells #[nf, .slice (some ⟨gt, 0, none⟩) N ct, .int .i64 σ.turn, vo, vr, .slice (some ⟨ga, 0, none⟩) N ca] 118 (0, 0)) ∧ Tr w (W.setCell ⟨a, 3, none⟩ vo') N a nf gt ct vo' vr ga ca { σ with opn := l' } := by
  have h1 := h.gta
  have h2 := h.opa
  have hbx := box_kept hk h.box (fun e => h2.1.1 e)
  have hks := kept_set W a 3 vo'
  have htl := (h.tu.lt gt rfl).2
  have hno : vo'.ownBlock ≠ some gt := fun e => by
    rcases hb with hb | ⟨q, hq, hlt⟩
    · exact h.tno (hb.symm.trans e)
    · rw [hq] at e; cases e; omega
  refine ⟨hbx, ⟨set_block _ _ 3 _ _ _ hbx _, hks.ownsRow (hk.ownsRow h.tu (fun q hq e => by simp [Value.ownBlock] at hq; subst hq; exact h.tno e)) (fun q hq e => by simp [Value.ownBlock] at hq; exact h1.1 (by omega)), hks.ownsRow ho (fun q hq e => own_box2 ho hbx (by decide) (by rw [hq, e])), hks.ownsRow (hk.ownsRow h.od (fun q hq e => h.ond q e hq)) (fun q hq e => h2.2.1 (by rw [hq, e])), hks.ownsRow (hk.ownsRow h.ag (fun q hq e => by simp [Value.ownBlock] at hq; subst hq; exact h2.1.2 e)) (fun q hq e => by simp [Value.ownBlock] at hq; exact h1.2.1 (by omega)), hno, h.tnd, fun q hq hq' => ?_, ?_, h.low⟩⟩
  · rcases hb with hb | ⟨q', hq2, hlt⟩
    · exact h.ond q (hb.symm.trans hq) hq'
    · rw [hq2] at hq
      cases hq
      have := (h.od.lt _ hq').2
      omega
  · exact (h.kept.step hk (fun i hi e => by have := (h.op.lt i e).1; omega)).step hks (fun i hi e => by have := h.low; omega)
theorem Tr.putR (h : Tr w wr N a nf gt ct vo vr ga ca σ) {vr' : Value} {l' : List Int} (hk : Kept (fun k => vr.ownBlock = some k) wr W) (ho : OwnN W w.heap.size vr' l') (hb : vr'.ownBlock = vr.ownBlock ∨ ∃ q, vr'.ownBlock = some q ∧ wr.heap.size ≤ q) :
    W.heap[a]? = some (.cells #[nf, .slice (some ⟨gt, 0, none⟩) N ct, .int .i64 σ.turn, vo, vr, .slice (some ⟨ga, 0, none⟩) N ca] 118 (0, 0)) ∧ Tr w (W.setCell ⟨a, 4, none⟩ vr') N a nf gt ct vo vr' ga ca { σ with order := l' } := by
  have h1 := h.gta
  have h2 := h.opa
  have hbx := box_kept hk h.box (fun e => h2.2.1 e)
  have hks := kept_set W a 4 vr'
  have htl := (h.tu.lt gt rfl).2
  have hno : vr'.ownBlock ≠ some gt := fun e => by
    rcases hb with hb | ⟨q, hq, hlt⟩
    · exact h.tnd (hb.symm.trans e)
    · rw [hq] at e; cases e; omega
  refine ⟨hbx, ⟨set_block _ _ 4 _ _ _ hbx _, hks.ownsRow (hk.ownsRow h.tu (fun q hq e => by simp [Value.ownBlock] at hq; subst hq; exact h.tnd e)) (fun q hq e => by simp [Value.ownBlock] at hq; exact h1.1 (by omega)), hks.ownsRow (hk.ownsRow h.op (fun q hq e => h.ond q hq e)) (fun q hq e => h2.1.1 (by rw [hq, e])), hks.ownsRow ho (fun q hq e => own_box2 ho hbx (by decide) (by rw [hq, e])), hks.ownsRow (hk.ownsRow h.ag (fun q hq e => by simp [Value.ownBlock] at hq; subst hq; exact h2.2.2 e)) (fun q hq e => by simp [Value.ownBlock] at hq; exact h1.2.1 (by omega)), h.tno, hno, fun q hq hq' => ?_, ?_, h.low⟩⟩
  · rcases hb with hb | ⟨q', hq2, hlt⟩
    · exact h.ond q hq (hb.symm.trans hq')
    · rw [hq2] at hq'
      cases hq'
      have := (h.op.lt _ hq).2
      omega
  · exact (h.kept.step hk (fun i hi e => by have := (h.od.lt i e).1; omega)).step hks (fun i hi e => by have := h.low; omega)
set_option maxHeartbeats 8000000 in
theorem fin_any (h : Tr w wr N a nf gt ct vo vr ga ca σ) (go first cc : Nat) (l : List Int) (hgo : vo.ownBlock = some go) (hsub : ∀ j, j < l.length → wr.cell? ⟨go, first + j, none⟩ = some (.int .i64 (l.getD j 0))) (hel : ∀ m ∈ l, 0 ≤ m ∧ m < N) (hl : l.length ≤ 10000) (hol : σ.order.length ≤ 10000) (hN : N ≤ 10000) :
    Calls Tryz.prog 107 #[.pointer (some ⟨a, 0, none⟩), .slice (some ⟨go, first, none⟩) l.length cc] wr fun e w' => e = .returned (.tuple #[]) ∧ ∃ vr', Tr w w' N a nf gt ct vo vr' ga ca (finP l σ) := by
  obtain ⟨n, hn⟩ : ∃ n, n = l.length := ⟨_, rfl⟩
  have HN := hid_of hn
  have HSUB := hid_of hsub
  have HEL := hid_of hel
  have HGO := hid_of hgo
  have HOL := hid_of hol
  have HT0 : Hid (Tr w wr N a nf gt ct vo vr ga ca { σ with turns := finTn (l.take 0) σ.turns, again := finAg (decide (1 < l.length)) (l.take 0) σ.again }) := h
  have HK0 := hid_of (Kept.refl (fun k => k = gt ∨ k = ga) wr)
  have hgg : go ≠ gt ∧ go ≠ ga := ⟨fun e => h.tno (by rw [hgo, e]), fun e => h.opa.1.2 (by rw [hgo, e])⟩
  have HGG := hid_of hgg
  rw [← hn] at hl ⊢
  have HR : Hid (∀ w' vr', Tr w w' N a nf gt ct vo vr' ga ca { σ with turns := finTn l σ.turns, order := σ.order ++ l, again := finAg (decide (1 < l.length)) l σ.again } → Tr w w' N a nf gt ct vo vr' ga ca (finP l σ)) := fun _ _ h => h
  generalize hbL : decide (1 < l.length) = bL at *
  have HBL : Hid (decide ((1 : Int) < (n : Int)) = bL) := by unfold Hid; rw [← hbL, hn]; exact decide_eq_decide.2 (by omega)
  generalize finP l σ = fin at *
  clear h hn hsub hel hgo hol hgg hbL
  go_enter Tryz.func107, Tryz.ntmps107
  go_wp2
  go_loopw [8] (fun iv w1 => ∃ k : Nat, k ≤ n ∧ iv = .int .i64 (k : Int) ∧ Hid (Tr w w1 N a nf gt ct vo vr ga ca { σ with turns := finTn (l.take k) σ.turns, again := finAg bL (l.take k) σ.again }) ∧ Hid (Kept (fun k => k = gt ∨ k = ga) wr w1)) (fun iv _ => n - (intOf iv).toNat)
  case atStart => exact ⟨0, by omega, rfl, HT0, HK0⟩
  case round =>
    clear HT0 HK0
    obtain ⟨k, hk, rfl, HT, HK⟩ := hrel
    by_cases hlt : k < n
    · have hltI : (k : Int) < (n : Int) := by omega
      have hkl : k < l.length := by rw [← HN.out]; exact hlt
      obtain ⟨q, hq⟩ : ∃ q : Nat, l.getD k 0 = (q : Int) := ⟨(l.getD k 0).toNat, by have := (HEL.out _ (getD_mem hkl)).1; omega⟩
      have hqN : q < N := by have := (HEL.out _ (getD_mem hkl)).2; omega
      have hqI : (q : Int) < (N : Int) := by omega
      have hcs : wr.cell? ⟨go, first + k, none⟩ = some (.int .i64 (q : Int)) := by
        rw [← hq]
        exact HK.out.cell (HSUB.out k hkl) (fun e => by rcases e with e | e; exact HGG.out.1 e; exact HGG.out.2 e)
      have HTK : Hid (l.take (k + 1) = l.take k ++ [(q : Int)]) := by
        unfold Hid
        rw [List.take_add_one, List.getElem?_eq_getElem hkl, ← hq]
        simp [List.getD, List.getElem?_eq_getElem hkl]
      have b1 := cell_block _ _ 1 _ _ _ HT.out.box
      obtain ⟨ct1, cf1⟩ := HT.out.tAt q hqN
      have hT3 := HT.out.setT q closedI
      have HK3 : Hid (Kept (fun k => k = gt ∨ k = ga) _ (wr.setCell ⟨gt, q, none⟩ (.int .i64 closedI))) := HK.out.trans ((kept_set wr gt q (.int .i64 closedI)).mono (fun _ _ e => .inl e))
      have HT3 := hid_of hT3
      unfold closedI at HT3 HK3
      clear hT3 hq hkl HT HK
      go_upto_region 4 with fail
      clear b1 ct1 cf1 hcs
      generalize wr.setCell ⟨gt, q, none⟩ (.int .i64 9223372036854775807) = w3 at *
      have HSM : Hid (∀ w', Kept (fun k => k = ga) w3 w' → w'.cell? ⟨a, 5, none⟩ = some (.slice (some ⟨ga, 0, none⟩) N ca)) := fun w' hw => hw.cell (cell_block _ _ 5 _ _ _ HT3.out.box) (fun e => HT3.out.gta.2.1 e.symm)
      have hTd := HT3.out.same ((Kept.refl (fun _ => False) w3).drew)
      obtain ⟨ca1, cf1⟩ := hTd.aAt q hqN
      have HNX : Hid (∀ x, ((finAg bL (l.take k) σ.again).getD q false || bL) = x → Tr w (w3.drew.setCell ⟨ga, q, none⟩ (.bool x)) N a nf gt ct vo vr ga ca { σ with turns := finTn (l.take (k + 1)) σ.turns, again := finAg bL (l.take (k + 1)) σ.again }) := fun x hx => by
        have := hTd.setA q x
        rw [HTK.out, finTn_snoc, finAg_snoc, Int.toNat_natCast, hx]
        exact this
      have HKS0 : Hid (∀ x, Kept (fun k => k = ga) w3 (w3.drew.setCell ⟨ga, q, none⟩ (.bool x))) := fun x => (Kept.refl _ _).drew.trans (kept_set _ ga q _)
      generalize (finAg bL (l.take k) σ.again).getD q false = bq at *
      clear hTd
      cases bq
      · have HN4 := hid_of (HNX.out bL rfl)
        have HKS := hid_of (HKS0.out bL)
        have hbL := HBL.out
        clear HNX HKS0
        refine wp_region_held_drew (S := fun w' => Kept (fun k => k = ga) w3 w') (by kernel_rfl) ((Kept.refl _ _).drew) (fun hHeld => ?_)
        generalize w3.drew = wd at *
        iterate 11
          refine tkn (v := ?_) 0 rfl ?_ ?_; rotate_left 1
          · intro w hSw; have s1 := HSM.out w hSw; go_simp; try with_reducible rfl
          try simp only [Act.put, tdy]
        refine wpAnyH_ready (rs := [11]) (by kernel_rfl) (by simp) ?_
        refine AllReadyH.cons rfl (fun K hK => ?_) AllReadyH.nil
        go_simp
        refine hK.out _ _ hHeld (fun hHeld => ?_)
        clear hK K
        try simp only [Act.put, tdy]
        iterate 1
          refine tkn (v := ?_) 12 rfl ?_ ?_; rotate_left 1
          · intro w hSw; go_simp; try with_reducible rfl
          try simp only [Act.put, tdy]
        iterate 3
          refine tkn (v := ?_) 13 rfl ?_ ?_; rotate_left 1
          · intro w hSw; go_simp; try with_reducible rfl
          try simp only [Act.put, tdy]
        iterate 2
          refine tkn (v := ?_) 16 rfl ?_ ?_; rotate_left 1
          · intro w hSw; go_simp; try with_reducible rfl
          try simp only [Act.put, tdy]
        refine wpAnyH_ready (rs := [18]) (by kernel_rfl) (by simp) ?_
        refine AllReadyH.cons rfl (fun K hK => ?_) AllReadyH.nil
        go_simp
        refine hK.out _ _ HKS.out (fun hHeld => ?_)
        clear hK K
        try simp only [Act.put, tdy]
        refine wpAnyH_done (by kernel_rfl) ?_ _
        have HK4 := hid_of (HK3.out.trans (HKS.out.mono (fun _ _ e => .inr e)))
        clear ca1 cf1 hHeld hbL
        go_wp2
        go_roundw
        case rel => exact ⟨k + 1, by omega, by go_num, HN4, HK4⟩
        case measure => simp [intOf]; omega
      · have HN4 := hid_of (HNX.out true rfl)
        have HKS := hid_of (HKS0.out true)
        clear HNX HKS0
        refine wp_region_held_drew (S := fun w' => Kept (fun k => k = ga) w3 w') (by kernel_rfl) ((Kept.refl _ _).drew) (fun hHeld => ?_)
        generalize w3.drew = wd at *
        iterate 11
          refine tkn (v := ?_) 0 rfl ?_ ?_; rotate_left 1
          · intro w hSw; have s1 := HSM.out w hSw; go_simp; try with_reducible rfl
          try simp only [Act.put, tdy]
        refine wpAnyH_ready (rs := [11]) (by kernel_rfl) (by simp) ?_
        refine AllReadyH.cons rfl (fun K hK => ?_) AllReadyH.nil
        go_simp
        refine hK.out _ _ hHeld (fun hHeld => ?_)
        clear hK K
        try simp only [Act.put, tdy]
        iterate 1
          refine tkn (v := ?_) 12 rfl ?_ ?_; rotate_left 1
          · intro w hSw; go_simp; try with_reducible rfl
          try simp only [Act.put, tdy]
        iterate 3
          refine tkm 13 rfl ?_
          try simp only [Act.put, tdy]
        iterate 2
          refine tkn (v := ?_) 16 rfl ?_ ?_; rotate_left 1
          · intro w hSw; go_simp; try with_reducible rfl
          try simp only [Act.put, tdy]
        refine wpAnyH_ready (rs := [18]) (by kernel_rfl) (by simp) ?_
        refine AllReadyH.cons rfl (fun K hK => ?_) AllReadyH.nil
        go_simp
        refine hK.out _ _ HKS.out (fun hHeld => ?_)
        clear hK K
        try simp only [Act.put, tdy]
        refine wpAnyH_done (by kernel_rfl) ?_ _
        have HK4 := hid_of (HK3.out.trans (HKS.out.mono (fun _ _ e => .inr e)))
        clear ca1 cf1 hHeld
        go_wp2
        go_roundw
        case rel => exact ⟨k + 1, by omega, by go_num, HN4, HK4⟩
        case measure => simp [intOf]; omega
    · have e : k = n := by omega
      subst e
      have hT := HT.out
      rw [List.take_of_length_le (by rw [← HN.out]; omega)] at hT
      obtain ⟨v', w5, hr5, ho5, hg5, hb5⟩ := app_num wr w.heap.size vr σ.order ⟨go, first, none⟩ k cc l hT.od HN.out.symm (fun j hj => by
        rw [Addr.add_lit]
        exact HK.out.cell (HSUB.out j (by rw [← HN.out]; exact hj)) (fun e => by rcases e with e | e; exact HGG.out.1 e; exact HGG.out.2 e)) (by have := HOL.out; omega) hT.kept.size
      have hk5 : Kept (fun k => vr.ownBlock = some k) wr w5 := (Kept.refl _ _).grown hg5 (fun k hk => .inr hk)
      obtain ⟨hbx, hTF⟩ := hT.putR hk5 ho5 (by
        rcases hb5 with hb5 | hb5
        · exact .inl hb5
        · exact .inr ⟨_, hb5, Nat.le_refl _⟩)
      have HTF := hid_of (HR.out _ _ hTF)
      have HR5 := hid_of hr5
      have b4 := cell_block _ _ 4 _ _ _ hT.box
      have b4' := cell_block _ _ 4 _ _ _ hbx
      have f4' := frozen_block _ _ 4 _ _ hbx
      obtain ⟨vao, vc, hvr⟩ := ownsRow_shape hT.od
      obtain ⟨vao', vc', hvr'⟩ := ownsRow_shape ho5
      generalize (σ.order ++ l).length = nol at *
      generalize σ.order.length = nor at *
      subst hvr hvr'
      clear hT hr5 ho5 hg5 hb5 hk5 hbx hTF HT HK HR
      go_wp2_with (at_builtin; refine wp_app2 rfl (.tmp 41) (.tmp 42) 30 30 rfl _ _ rfl rfl _ w5 HR5.out ?_)
      go_end0
      exact ⟨rfl, _, HTF.out⟩
end
end Go.Proofs.YtcaadgcfceommaaGreat

import Derived.Test.YtcaadgcfceommaaGreatTKs
namespace Go.Proofs.YtcaadgcfceommaaGreat
open Go.RowKit
set_option linter.unusedVariables false
set_option linter.unusedSimpArgs false
set_option maxRecDepth 100000
def closedI : Int := 9223372036854775807
def finTn (l : List Int) (ts : List Int) : List Int := l.foldl (fun t n => t.set n.toNat closedI) ts
def finAg (b : Bool) (l : List Int) (ag : List Bool) : List Bool := l.foldl (fun t n => t.set n.toNat (t.getD n.toNat false || b)) ag
def finP (l : List Int) (σ : TS) : TS := { σ with turns := finTn l σ.turns, order := σ.order ++ l, again := finAg (decide (1 < l.length)) l σ.again }
theorem finTn_snoc (l : List Int) (x : Int) (ts : List Int) : finTn (l ++ [x]) ts = (finTn l ts).set x.toNat closedI := by simp [finTn]
theorem finAg_snoc (b : Bool) (l : List Int) (x : Int) (ag : List Bool) : finAg b (l ++ [x]) ag = (finAg b l ag).set x.toNat ((finAg b l ag).getD x.toNat false || b) := by simp [finAg]
section
variable {w wr W : World} {N a : Nat} {nf : Value} {gt ct : Nat} {vo vr : Value} {ga ca : Nat} {σ : TS}
theorem Tr.putO (h : Tr w wr N a nf gt ct vo vr ga ca σ) {vo' : Value} {l' : List Int} (hk : Kept (fun k => vo.ownBlock = some k) wr W) (ho : OwnN W w.heap.size vo' l') (hb : vo'.ownBlock = vo.ownBlock ∨ ∃ q, vo'.ownBlock = some q ∧ wr.heap.size ≤ q) :
  W.heap[a]? = some (.cells #[nf, .slice (some ⟨gt, 0, none⟩) N ct, .int .i64 σ.turn, vo, vr, .slice (some ⟨ga, 0, none⟩) N ca] 118 (0, 0)) ∧ Tr w (W.setCell ⟨a, 3, none⟩ vo') N a nf gt ct vo' vr ga ca { σ with opn := l' } := by
 have h1 := h.gta
 have h2 := h.opa
 have hbx := box_kept hk h.box (fun e => h2.1.1 e)
 have hks := kept_set W a 3 vo'
 have htl := (h.tu.lt gt rfl).2
 have hno : vo'.ownBlock ≠ some gt := fun e => by
  rcases hb with hb | ⟨q, hq, hlt⟩
  ·exact h.tno (hb.symm.trans e)
  ·rw [hq] at e; cases e; omega
 refine ⟨hbx, ⟨set_block _ _ 3 _ _ _ hbx _, hks.ownsRow (hk.ownsRow h.tu (fun q hq e => by simp [Value.ownBlock] at hq; subst hq; exact h.tno e)) (fun q hq e => by simp [Value.ownBlock] at hq; exact h1.1 (by omega)), hks.ownsRow ho (fun q hq e => own_box2 ho hbx (by decide) (by rw [hq, e])), hks.ownsRow (hk.ownsRow h.od (fun q hq e => h.ond q e hq)) (fun q hq e => h2.2.1 (by rw [hq, e])), hks.ownsRow (hk.ownsRow h.ag (fun q hq e => by simp [Value.ownBlock] at hq; subst hq; exact h2.1.2 e)) (fun q hq e => by simp [Value.ownBlock] at hq; exact h1.2.1 (by omega)), hno, h.tnd, fun q hq hq' => ?_, ?_, h.low⟩⟩
 ·rcases hb with hb | ⟨q', hq2, hlt⟩
  ·exact h.ond q (hb.symm.trans hq) hq'
  ·rw [hq2] at hq
   cases hq
   have := (h.od.lt _ hq').2
   omega
 ·exact (h.kept.step hk (fun i hi e => by have := (h.op.lt i e).1; omega)).step hks (fun i hi e => by have := h.low; omega)
theorem Tr.putR (h : Tr w wr N a nf gt ct vo vr ga ca σ) {vr' : Value} {l' : List Int} (hk : Kept (fun k => vr.ownBlock = some k) wr W) (ho : OwnN W w.heap.size vr' l') (hb : vr'.ownBlock = vr.ownBlock ∨ ∃ q, vr'.ownBlock = some q ∧ wr.heap.size ≤ q) :
  W.heap[a]? = some (.cells #[nf, .slice (some ⟨gt, 0, none⟩) N ct, .int .i64 σ.turn, vo, vr, .slice (some ⟨ga, 0, none⟩) N ca] 118 (0, 0)) ∧ Tr w (W.setCell ⟨a, 4, none⟩ vr') N a nf gt ct vo vr' ga ca { σ with order := l' } := by
 have h1 := h.gta
 have h2 := h.opa
 have hbx := box_kept hk h.box (fun e => h2.2.1 e)
 have hks := kept_set W a 4 vr'
 have htl := (h.tu.lt gt rfl).2
 have hno : vr'.ownBlock ≠ some gt := fun e => by
  rcases hb with hb | ⟨q, hq, hlt⟩
  ·exact h.tnd (hb.symm.trans e)
  ·rw [hq] at e; cases e; omega
 refine ⟨hbx, ⟨set_block _ _ 4 _ _ _ hbx _, hks.ownsRow (hk.ownsRow h.tu (fun q hq e => by simp [Value.ownBlock] at hq; subst hq; exact h.tnd e)) (fun q hq e => by simp [Value.ownBlock] at hq; exact h1.1 (by omega)), hks.ownsRow (hk.ownsRow h.op (fun q hq e => h.ond q hq e)) (fun q hq e => h2.1.1 (by rw [hq, e])), hks.ownsRow ho (fun q hq e => own_box2 ho hbx (by decide) (by rw [hq, e])), hks.ownsRow (hk.ownsRow h.ag (fun q hq e => by simp [Value.ownBlock] at hq; subst hq; exact h2.2.2 e)) (fun q hq e => by simp [Value.ownBlock] at hq; exact h1.2.1 (by omega)), h.tno, hno, fun q hq hq' => ?_, ?_, h.low⟩⟩
 ·rcases hb with hb | ⟨q', hq2, hlt⟩
  ·exact h.ond q hq (hb.symm.trans hq')
  ·rw [hq2] at hq'
   cases hq'
   have := (h.op.lt _ hq).2
   omega
 ·exact (h.kept.step hk (fun i hi e => by have := (h.od.lt i e).1; omega)).step hks (fun i hi e => by have := h.low; omega)
set_option maxHeartbeats 8000000 in
theorem fin_any (h : Tr w wr N a nf gt ct vo vr ga ca σ) (go first cc : Nat) (l : List Int) (hgo : vo.ownBlock = some go) (hsub : ∀ j, j < l.length → wr.cell? ⟨go, first + j, none⟩ = some (.int .i64 (l.getD j 0))) (hel : ∀ m ∈ l, 0 ≤ m ∧ m < N) (hl : l.length ≤ 10000) (hol : σ.order.length ≤ 10000) (hN : N ≤ 10000) :
  Calls Tryz.prog 107 #[.pointer (some ⟨a, 0, none⟩), .slice (some ⟨go, first, none⟩) l.length cc] wr fun e w' => e = .returned (.tuple #[]) ∧ ∃ vr', Tr w w' N a nf gt ct vo vr' ga ca (finP l σ) := by
 obtain ⟨n, hn⟩ := nmd (l.length)
 have HN := hid_of hn
 have HSUB := hid_of hsub
 have HEL := hid_of hel
 have HGO := hid_of hgo
 have HOL := hid_of hol
 have HT0 : Hid (Tr w wr N a nf gt ct vo vr ga ca { σ with turns := finTn (l.take 0) σ.turns, again := finAg (decide (1 < l.length)) (l.take 0) σ.again }) := h
 have HK0 := hid_of (Kept.refl (fun k => k = gt ∨ k = ga) wr)
 have hgg : go ≠ gt ∧ go ≠ ga := ⟨fun e => h.tno (by rw [hgo, e]), fun e => h.opa.1.2 (by rw [hgo, e])⟩
 have HGG := hid_of hgg
 rw [← hn] at hl ⊢
 have HR : Hid (∀ w' vr', Tr w w' N a nf gt ct vo vr' ga ca { σ with turns := finTn l σ.turns, order := σ.order ++ l, again := finAg (decide (1 < l.length)) l σ.again } → Tr w w' N a nf gt ct vo vr' ga ca (finP l σ)) := fun _ _ h => h
 generalize hbL : decide (1 < l.length) = bL at *
 have HBL : Hid (decide ((1 : Int) < (n : Int)) = bL) := by unfold Hid; rw [← hbL, hn]; exact decide_eq_decide.2 (by omega)
 generalize finP l σ = fin at *
 clear h hn hsub hel hgo hol hgg hbL
 go_enter Tryz.func107, Tryz.ntmps107
 go_wp2
 go_loopw [8] (fun iv w1 => ∃ k : Nat, k ≤ n ∧ iv = .int .i64 (k : Int) ∧ Hid (Tr w w1 N a nf gt ct vo vr ga ca { σ with turns := finTn (l.take k) σ.turns, again := finAg bL (l.take k) σ.again }) ∧ Hid (Kept (fun k => k = gt ∨ k = ga) wr w1)) (fun iv _ => n - (intOf iv).toNat)
 case atStart => exact ⟨0, by omega, rfl, HT0, HK0⟩
 case round =>
  clear HT0 HK0
  obtain ⟨k, hk, rfl, HT, HK⟩ := hrel
  by_cases hlt : k < n
  ·have hltI : (k : Int) < (n : Int) := by omega
   have hkl : k < l.length := by rw [← HN.out]; exact hlt
   obtain ⟨q, hq⟩ : ∃ q : Nat, l.getD k 0 = (q : Int) := ⟨(l.getD k 0).toNat, by have := (HEL.out _ (getD_mem hkl)).1; omega⟩
   have hqN : q < N := by have := (HEL.out _ (getD_mem hkl)).2; omega
   have hqI : (q : Int) < (N : Int) := by omega
   have hcs : wr.cell? ⟨go, first + k, none⟩ = some (.int .i64 (q : Int)) := by
    rw [← hq]
    exact HK.out.cell (HSUB.out k hkl) (fun e => by rcases e with e | e; exact HGG.out.1 e; exact HGG.out.2 e)
   have HTK : Hid (l.take (k + 1) = l.take k ++ [(q : Int)]) := by
    unfold Hid
    rw [List.take_add_one, List.getElem?_eq_getElem hkl, ← hq]
    simp [List.getD, List.getElem?_eq_getElem hkl]
   have b1 := cell_block _ _ 1 _ _ _ HT.out.box
   obtain ⟨ct1, cf1⟩ := HT.out.tAt q hqN
   have hT3 := HT.out.setT q closedI
   have HK3 : Hid (Kept (fun k => k = gt ∨ k = ga) _ (wr.setCell ⟨gt, q, none⟩ (.int .i64 closedI))) := HK.out.trans ((kept_set wr gt q (.int .i64 closedI)).mono (fun _ _ e => .inl e))
   have HT3 := hid_of hT3
   unfold closedI at HT3 HK3
   clear hT3 hq hkl HT HK
   go_upto_region 4 with fail
   clear b1 ct1 cf1 hcs
   generalize wr.setCell ⟨gt, q, none⟩ (.int .i64 9223372036854775807) = w3 at *
   have HSM : Hid (∀ w', Kept (fun k => k = ga) w3 w' → w'.cell? ⟨a, 5, none⟩ = some (.slice (some ⟨ga, 0, none⟩) N ca)) := fun w' hw => hw.cell (cell_block _ _ 5 _ _ _ HT3.out.box) (fun e => HT3.out.gta.2.1 e.symm)
   have hTd := HT3.out.same ((Kept.refl (fun _ => False) w3).drew)
   obtain ⟨ca1, cf1⟩ := hTd.aAt q hqN
   have HNX : Hid (∀ x, ((finAg bL (l.take k) σ.again).getD q false || bL) = x → Tr w (w3.drew.setCell ⟨ga, q, none⟩ (.bool x)) N a nf gt ct vo vr ga ca { σ with turns := finTn (l.take (k + 1)) σ.turns, again := finAg bL (l.take (k + 1)) σ.again }) := fun x hx => by
    have := hTd.setA q x
    rw [HTK.out, finTn_snoc, finAg_snoc, Int.toNat_natCast, hx]
    exact this
   have HKS0 : Hid (∀ x, Kept (fun k => k = ga) w3 (w3.drew.setCell ⟨ga, q, none⟩ (.bool x))) := fun x => (Kept.refl _ _).drew.trans (kept_set _ ga q _)
   generalize (finAg bL (l.take k) σ.again).getD q false = bq at *
   clear hTd
   cases bq
   ·have HN4 := hid_of (HNX.out bL rfl)
    have HKS := hid_of (HKS0.out bL)
    have hbL := HBL.out
    clear HNX HKS0
    refine wp_region_held_drew (S := fun w' => Kept (fun k => k = ga) w3 w') (by kernel_rfl) ((Kept.refl _ _).drew) (fun hHeld => ?_)
    generalize w3.drew = wd at *
    iterate 11
     refine tkn (v := ?_) 0 rfl ?_ ?_; rotate_left 1
     ·intro w hSw; have s1 := HSM.out w hSw; go_simp; try with_reducible rfl
     try simp only [Act.put, tdy]
    refine rdy 11 rfl (fun K hK => ?_)
    go_simp
    refine hK.out _ _ hHeld (fun hHeld => ?_)
    clear hK K
    try simp only [Act.put, tdy]
    iterate 1
     refine tkn (v := ?_) 12 rfl ?_ ?_; rotate_left 1
     ·intro w hSw; go_simp; try with_reducible rfl
     try simp only [Act.put, tdy]
    iterate 3
     refine tkn (v := ?_) 13 rfl ?_ ?_; rotate_left 1
     ·intro w hSw; go_simp; try with_reducible rfl
     try simp only [Act.put, tdy]
    iterate 2
     refine tkn (v := ?_) 16 rfl ?_ ?_; rotate_left 1
     ·intro w hSw; go_simp; try with_reducible rfl
     try simp only [Act.put, tdy]
    refine rdy 18 rfl (fun K hK => ?_)
    go_simp
    refine hK.out _ _ HKS.out (fun hHeld => ?_)
    clear hK K
    try simp only [Act.put, tdy]
    refine wpAnyH_done (by kernel_rfl) ?_ _
    have HK4 := hid_of (HK3.out.trans (HKS.out.mono (fun _ _ e => .inr e)))
    clear ca1 cf1 hHeld hbL
    go_wp2
    go_roundw
    case rel => exact ⟨k + 1, by omega, by go_num, HN4, HK4⟩
    case measure => simp [intOf]; omega
   ·have HN4 := hid_of (HNX.out true rfl)
    have HKS := hid_of (HKS0.out true)
    clear HNX HKS0
    refine wp_region_held_drew (S := fun w' => Kept (fun k => k = ga) w3 w') (by kernel_rfl) ((Kept.refl _ _).drew) (fun hHeld => ?_)
    generalize w3.drew = wd at *
    iterate 11
     refine tkn (v := ?_) 0 rfl ?_ ?_; rotate_left 1
     ·intro w hSw; have s1 := HSM.out w hSw; go_simp; try with_reducible rfl
     try simp only [Act.put, tdy]
    refine rdy 11 rfl (fun K hK => ?_)
    go_simp
    refine hK.out _ _ hHeld (fun hHeld => ?_)
    clear hK K
    try simp only [Act.put, tdy]
    iterate 1
     refine tkn (v := ?_) 12 rfl ?_ ?_; rotate_left 1
     ·intro w hSw; go_simp; try with_reducible rfl
     try simp only [Act.put, tdy]
    iterate 3
     refine tkm 13 rfl ?_
     try simp only [Act.put, tdy]
    iterate 2
     refine tkn (v := ?_) 16 rfl ?_ ?_; rotate_left 1
     ·intro w hSw; go_simp; try with_reducible rfl
     try simp only [Act.put, tdy]
    refine rdy 18 rfl (fun K hK => ?_)
    go_simp
    refine hK.out _ _ HKS.out (fun hHeld => ?_)
    clear hK K
    try simp only [Act.put, tdy]
    refine wpAnyH_done (by kernel_rfl) ?_ _
    have HK4 := hid_of (HK3.out.trans (HKS.out.mono (fun _ _ e => .inr e)))
    clear ca1 cf1 hHeld
    go_wp2
    go_roundw
    case rel => exact ⟨k + 1, by omega, by go_num, HN4, HK4⟩
    case measure => simp [intOf]; omega
  ·have e : k = n := by omega
   subst e
   have hT := HT.out
   rw [List.take_of_length_le (by rw [← HN.out]; omega)] at hT
   obtain ⟨v', w5, hr5, ho5, hg5, hb5⟩ := app_num wr w.heap.size vr σ.order ⟨go, first, none⟩ k cc l hT.od HN.out.symm (fun j hj => by
    rw [Addr.add_lit]
    exact HK.out.cell (HSUB.out j (by rw [← HN.out]; exact hj)) (fun e => by rcases e with e | e; exact HGG.out.1 e; exact HGG.out.2 e)) (by have := HOL.out; omega) hT.kept.size
   have hk5 : Kept (fun k => vr.ownBlock = some k) wr w5 := (Kept.refl _ _).grown hg5 (fun k hk => .inr hk)
   obtain ⟨hbx, hTF⟩ := hT.putR hk5 ho5 (by
    rcases hb5 with hb5 | hb5
    ·exact .inl hb5
    ·exact .inr ⟨_, hb5, Nat.le_refl _⟩)
   have HTF := hid_of (HR.out _ _ hTF)
   have HR5 := hid_of hr5
   have b4 := cell_block _ _ 4 _ _ _ hT.box
   have b4' := cell_block _ _ 4 _ _ _ hbx
   have f4' := frozen_block _ _ 4 _ _ hbx
   obtain ⟨vao, vc, hvr⟩ := ownsRow_shape hT.od
   obtain ⟨vao', vc', hvr'⟩ := ownsRow_shape ho5
   generalize (σ.order ++ l).length = nol at *
   generalize σ.order.length = nor at *
   subst hvr hvr'
   clear hT hr5 ho5 hg5 hb5 hk5 hbx hTF HT HK HR
   go_wp2_with (at_builtin; refine wp_app2 rfl (.tmp 41) (.tmp 42) 30 30 rfl _ _ rfl rfl _ w5 HR5.out ?_)
   go_end0
   exact ⟨rfl, _, HTF.out⟩
end
def minI (e r : Int) : Int := if r < e then r else e
def loopP (mt : TS → Nat → TS × Int) (n : Nat) : List Int → TS → Int → TS × Int
 | [], σ, e => (σ, e)
 | m :: ms, σ, e =>
  if (if m = n then { σ with again := σ.again.set n true } else σ).turns.getD m.toNat 0 = 0 then
   loopP mt n ms (mt (if m = n then { σ with again := σ.again.set n true } else σ) m.toNat).1 (minI e (mt (if m = n then { σ with again := σ.again.set n true } else σ) m.toNat).2)
  else loopP mt n ms (if m = n then { σ with again := σ.again.set n true } else σ) (minI e ((if m = n then { σ with again := σ.again.set n true } else σ).turns.getD m.toNat 0))
def metS (σ : TS) (n : Nat) : TS := ⟨σ.turns.set n (σ.turn + 1), σ.turn + 1, σ.opn ++ [(n : Int)], σ.order, σ.again⟩
def doneS (first : Nat) (σ : TS) : TS := { finP (σ.opn.drop first) σ with opn := σ.opn.take first }
def meetP (nx : Nat → List Int) : Nat → TS → Nat → TS × Int
 | 0, σ, _ => (σ, 0)
 | f + 1, σ, n => if (loopP (meetP nx f) n (nx n) (metS σ n) (σ.turn + 1)).2 = σ.turn + 1 then (doneS σ.opn.length (loopP (meetP nx f) n (nx n) (metS σ n) (σ.turn + 1)).1, (loopP (meetP nx f) n (nx n) (metS σ n) (σ.turn + 1)).2) else loopP (meetP nx f) n (nx n) (metS σ n) (σ.turn + 1)
def zc (l : List Int) : Nat := l.count 0
structure TI (N : Nat) (R : Nat → Prop) (σ : TS) : Prop where
 tl : σ.turns.length = N
 al : σ.again.length = N
 op : ∀ m ∈ σ.opn, 0 ≤ m ∧ m < N ∧ R m.toNat
 od : ∀ m ∈ σ.order, 0 ≤ m ∧ m < N ∧ R m.toNat
 cnt : zc σ.turns + σ.opn.length + σ.order.length ≤ N
 tn : 0 ≤ σ.turn ∧ σ.turn + zc σ.turns ≤ N
theorem zc_pos {l : List Int} {i : Nat} (hi : i < l.length) (h : l.getD i 0 = 0) : 0 < zc l := by
 refine List.count_pos_iff.2 ?_
 have := getD_mem hi
 rwa [h] at this
theorem zc_set (l : List Int) (i : Nat) (x : Int) (hx : x ≠ 0) : zc (l.set i x) ≤ zc l := by
 by_cases hi : i < l.length
 ·unfold zc
  rw [List.count_set hi]
  have : (x == 0) = false := by simp; exact hx
  rw [this]
  simp
 ·rw [List.set_eq_of_length_le (by omega)]
  exact Nat.le_refl _
theorem zc_set0 {l : List Int} {i : Nat} (hi : i < l.length) (h : l.getD i 0 = 0) (x : Int) (hx : x ≠ 0) : zc (l.set i x) + 1 = zc l := by
 have hp := zc_pos hi h
 have hg : l[i] = 0 := by rw [← h]; simp [List.getD, List.getElem?_eq_getElem hi]
 unfold zc at *
 rw [List.count_set hi, hg]
 have : (x == 0) = false := by simp; exact hx
 rw [this]
 simp
 omega
theorem TI.met {N : Nat} {R : Nat → Prop} {σ : TS} (h : TI N R σ) {n : Nat} (hn : n < N) (hR : R n) (h0 : σ.turns.getD n 0 = 0) : TI N R (metS σ n) ∧ zc (metS σ n).turns + 1 = zc σ.turns := by
 have h1 := h.tn
 have hz := zc_set0 (l := σ.turns) (i := n) (by rw [h.tl]; exact hn) h0 (σ.turn + 1) (by omega)
 have hc := h.cnt
 refine ⟨⟨by simp [metS, h.tl], h.al, fun m hm => ?_, h.od, ?_, ?_⟩, hz⟩
 ·rcases List.mem_append.1 hm with hm | hm
  ·exact h.op m hm
  ·simp at hm
   subst hm
   exact ⟨by omega, by omega, by rw [Int.toNat_natCast]; exact hR⟩
 ·show zc (σ.turns.set n (σ.turn + 1)) + (σ.opn ++ [(n : Int)]).length + σ.order.length ≤ N
  simp
  omega
 ·show 0 ≤ σ.turn + 1 ∧ σ.turn + 1 + zc (σ.turns.set n (σ.turn + 1)) ≤ N
  omega
theorem TI.again {N : Nat} {R : Nat → Prop} {σ : TS} (h : TI N R σ) (n : Nat) : TI N R { σ with again := σ.again.set n true } := ⟨h.tl, by simp [h.al], h.op, h.od, h.cnt, h.tn⟩
theorem finTn_len : ∀ (l ts : List Int), (finTn l ts).length = ts.length
 | [], ts => rfl
 | x :: l, ts => by
  show (finTn l (ts.set x.toNat closedI)).length = _
  rw [finTn_len l]
  simp
theorem finTn_zc : ∀ (l ts : List Int), zc (finTn l ts) ≤ zc ts
 | [], ts => Nat.le_refl _
 | x :: l, ts => Nat.le_trans (finTn_zc l (ts.set x.toNat closedI)) (zc_set ts x.toNat closedI (by decide))
theorem finAg_len (b : Bool) : ∀ (l : List Int) (ag : List Bool), (finAg b l ag).length = ag.length
 | [], ag => rfl
 | x :: l, ag => by
  show (finAg b l (ag.set x.toNat _)).length = _
  rw [finAg_len b l]
  simp
theorem TI.done {N : Nat} {R : Nat → Prop} {σ : TS} (h : TI N R σ) (first : Nat) : TI N R (doneS first σ) ∧ zc (doneS first σ).turns ≤ zc σ.turns := by
 have hz := finTn_zc (σ.opn.drop first) σ.turns
 have hc := h.cnt
 have ht := h.tn
 refine ⟨⟨?_, ?_, fun m hm => h.op m (List.mem_of_mem_take hm), fun m hm => ?_, ?_, ?_⟩, hz⟩
 ·show (finTn _ _).length = N
  rw [finTn_len, h.tl]
 ·show (finAg _ _ _).length = N
  rw [finAg_len, h.al]
 ·rcases List.mem_append.1 hm with hm | hm
  ·exact h.od m hm
  ·exact h.op m (List.mem_of_mem_drop hm)
 ·show zc (finTn (σ.opn.drop first) σ.turns) + (σ.opn.take first).length + (σ.order ++ σ.opn.drop first).length ≤ N
  simp
  omega
 ·show 0 ≤ σ.turn ∧ σ.turn + zc (finTn (σ.opn.drop first) σ.turns) ≤ N
  omega
def MetR (w : World) (N : Nat) (R : Nat → Prop) (a : Nat) (nf : Value) (gt ct ga ca : Nat) (σ : TS) (r : TS × Int) (e : Ending) (w' : World) : Prop :=
 e = .returned (.int .i64 r.2) ∧ TI N R r.1 ∧ σ.opn.length ≤ r.1.opn.length ∧ zc r.1.turns + 1 ≤ zc σ.turns ∧ ∃ vo vr, Tr w w' N a nf gt ct vo vr ga ca r.1
set_option maxHeartbeats 16000000 in
theorem meet_63 (w : World) (N a : Nat) (cap : Value) (gt ct ga ca : Nat) (nx : Nat → List Int) (R : Nat → Prop) (hN : N ≤ 5000) (hnl : ∀ n, n < N → R n → (nx n).length ≤ 5000 ∧ ∀ m ∈ nx n, 0 ≤ m ∧ m < N ∧ R m.toNat)
  (hnx : ∀ n, n < N → ∀ W, KF w W → Calls Tryz.prog 63 #[.int .i64 (n : Int), cap] W fun e w' => (∃ v, e = .returned v ∧ OwnN w 0 v (nx n)) ∧ w' = W) :
  ∀ (f : Nat) (σ : TS) (n : Nat) (w1 : World) (vo vr : Value), TI N R σ → n < N → R n → σ.turns.getD n 0 = 0 → zc σ.turns ≤ f → Tr w w1 N a (.func (.func 63) #[] #[cap]) gt ct vo vr ga ca σ →
   Calls Tryz.prog 88 #[.pointer (some ⟨a, 0, none⟩), .int .i64 (n : Int)] w1 (MetR w N R a (.func (.func 63) #[] #[cap]) gt ct ga ca σ (meetP nx f σ n))
 | 0, σ, n, w1, vo, vr, hI, hn, hR, h0, hz, hT => absurd (zc_pos (by rw [hI.tl]; exact hn) h0) (by omega)
 | f + 1, σ, n, w1, vo, vr, hI, hn, hR, h0, hz, hT => by
  have HREC := hid_of (meet_63 w N a cap gt ct ga ca nx R hN hnl hnx f)
  obtain ⟨hI1, hz1⟩ := hI.met hn hR h0
  have hnI : (n : Int) < (N : Int) := by omega
  obtain ⟨htn0, htn1⟩ := hI.tn
  have hb2 := cell_block _ _ 2 _ _ _ hT.box
  have hf2 := frozen_block _ _ 2 _ _ hT.box
  have hTa := hT.setN (σ.turn + 1)
  obtain ⟨t0, ht0⟩ : ∃ t, σ.turn = t := ⟨_, rfl⟩
  rw [ht0] at hb2 hTa htn0 htn1
  have HTa := hid_of hTa
  have HT0 := hid_of ht0
  have HI := hid_of hI
  have HI1 := hid_of hI1
  have HZ1 := hid_of hz1
  have HZ := hid_of hz
  have HNXL := hid_of (hnl n hn hR)
  have HNX := hid_of (hnx n hn)
  clear hTa hI hI1 hz1 hz ht0 hT h0 hnl hnx
  go_enter Tryz.func88, Tryz.ntmps88
  go_upto_region 2 with fail
  clear hb2 hf2
  generalize w1.setCell ⟨a, 2, none⟩ (.int .i64 (t0 + 1)) = w2 at *
  have b2 := cell_block _ _ 2 _ _ _ HTa.out.box
  have b3 := cell_block _ _ 3 _ _ _ HTa.out.box
  obtain ⟨oao, oc, hvo⟩ := ownsRow_shape HTa.out.op
  simp only at b2 b3 hvo
  obtain ⟨first, hfi⟩ := nmd (σ.opn.length)
  rw [← hfi] at hvo
  subst hvo
  have HFI := hid_of hfi
  clear hfi
  go_quiet (fail)
  have hT3 := HTa.out.same (drewN_kept w2 nq)
  clear b2 b3 HTa
  generalize w2.drewN nq = w3 at *
  have b1 := cell_block _ _ 1 _ _ _ hT3.box
  obtain ⟨ct1, cf1⟩ := hT3.tAt n hn
  have HT4 := hid_of (hT3.setT n (t0 + 1))
  clear hT3
  go_upto_region 4 with fail
  clear b1 ct1 cf1
  generalize w3.setCell ⟨gt, n, none⟩ (.int .i64 (t0 + 1)) = w4 at *
  have hkA : KF w4 (w4.alloc (.cells #[.int .i64 (n : Int)] 3)) := (Kept.refl _ _).alloc _
  have hTA := HT4.out.same hkA
  obtain ⟨v5, w5, hr5, ho5, hg5, hb5⟩ := app_num _ w.heap.size (.slice oao first oc) σ.opn ⟨w4.heap.size, 0, none⟩ 1 1 [(n : Int)] hTA.op rfl (fun j hj => by
   have : j = 0 := by omega
   subst this
   rw [Addr.add_lit, cell_block _ _ _ _ _ _ (heap_alloc_new w4 _)]
   rfl) (by have := HI.out.cnt; simp; omega) hTA.kept.size
  have hk5 : Kept (fun k => (Value.slice oao first oc).ownBlock = some k) (w4.alloc (.cells #[.int .i64 (n : Int)] 3)) w5 := (Kept.refl _ _).grown hg5 (fun k hk => .inr hk)
  obtain ⟨hbx, hT5⟩ := hTA.putO hk5 ho5 (by
   rcases hb5 with hb5 | hb5
   ·exact .inl hb5
   ·exact .inr ⟨_, hb5, Nat.le_refl _⟩)
  have hT5' : Tr w (w5.setCell ⟨a, 3, none⟩ v5) N a (.func (.func 63) #[] #[cap]) gt ct v5 vr ga ca (metS σ n) := by
   have e : metS σ n = { turns := σ.turns.set n (t0 + 1), turn := t0 + 1, opn := σ.opn ++ [(n : Int)], order := σ.order, again := σ.again } := by unfold metS; rw [HT0.out]
   rw [e]
   exact hT5
  have HT5 := hid_of hT5'
  have HR5 := hid_of hr5
  have b3 := cell_block _ _ 3 _ _ _ HT4.out.box
  have c3 := cell_block _ _ 3 _ _ _ hbx
  have f3 := frozen_block _ _ 3 _ _ hbx
  obtain ⟨ao5, c5, hv5⟩ := ownsRow_shape ho5
  have h5l : (σ.opn ++ [(n : Int)]).length = first + 1 := by rw [HFI.out]; simp
  rw [h5l] at hv5
  have hone5 : v5.oneCell' = true := by rw [hv5]; rfl
  subst hv5
  have HTR : Hid (Tr w (w5.setCell ⟨a, 3, none⟩ (.slice ao5 (first + 1) c5)) N a (.func (.func 63) #[] #[cap]) gt ct (.slice ao5 (first + 1) c5) vr ga ca (metS σ n)) := HT5.out
  clear hkA hTA ho5 hg5 hb5 hk5 hbx hT5 hT5' hr5 h5l HT4 HT5
  go_upto_region 5 with (at_builtin; refine wp_app2 rfl (.tmp 41) (.tmp 43) 30 30 rfl _ _ rfl rfl _ w5 HR5.out ?_)
  clear b3 c3 f3 HR5 hone5
  generalize w5.setCell ⟨a, 3, none⟩ (.slice ao5 (first + 1) c5) = w6 at *
  have b0 := cell_block _ _ 0 _ _ _ HTR.out.box
  have HNX6 := hid_of (HNX.out w6 HTR.out.kept)
  go_wp2_with fail
  refine HNX6.out.mono ?_
  rintro e w7 ⟨⟨v7, rfl, ho7⟩, hw7⟩
  have hw7 := hw7.symm
  subst hw7
  obtain ⟨nao, nc, hv7⟩ := ownsRow_shape ho7
  obtain ⟨nl, hnl⟩ := nmd ((nx n).length)
  rw [← hnl] at hv7
  subst hv7
  have HO7 := hid_of ho7
  have HNL := hid_of hnl
  clear HNX6 HNX b0 ho7 hnl
  have hnl5 : nl ≤ 5000 := by have := HNXL.out.1; have := HNL.out; omega
  go_wp2
  have HL0 : Hid (loopP (meetP nx f) n (nx n) (metS σ n) (t0 + 1) = loopP (meetP nx f) n ((nx n).drop 0) (metS σ n) (t0 + 1)) := rfl
  have HF0 : Hid (first + 1 ≤ (metS σ n).opn.length) := by unfold Hid metS; rw [HFI.out]; simp
  have HZ0 : Hid (zc (metS σ n).turns + 1 ≤ zc σ.turns) := Nat.le_of_eq HZ1.out
  go_loopw [6, 54] (fun ev iv wr => ∃ (k : Nat) (σk : TS) (ek : Int) (vok vrk : Value), k ≤ nl ∧ ev = .int .i64 ek ∧ iv = .int .i64 (k : Int) ∧ Hid (TI N R σk) ∧ Hid (Tr w wr N a (.func (.func 63) #[] #[cap]) gt ct vok vrk ga ca σk) ∧ Hid (first + 1 ≤ σk.opn.length) ∧ Hid (zc σk.turns + 1 ≤ zc σ.turns) ∧ Hid (loopP (meetP nx f) n (nx n) (metS σ n) (t0 + 1) = loopP (meetP nx f) n ((nx n).drop k) σk ek)) (fun _ iv _ => nl - (intOf iv).toNat)
  case atStart => exact ⟨0, metS σ n, t0 + 1, _, _, by omega, rfl, rfl, HI1, HTR, HF0, HZ0, HL0⟩
  case round =>
   clear HI1 HTR HF0 HZ0 HL0 HZ1
   obtain ⟨k, σk, ek, vok, vrk, hk, rfl, rfl, HIk, HTk, HOk, HZk, HLP⟩ := hrel
   by_cases hlt : k < nl
   ·have hltI : (k : Int) < (nl : Int) := by omega
    have hkl : k < (nx n).length := by rw [← HNL.out]; exact hlt
    obtain ⟨m, hm⟩ : ∃ m, (nx n)[k]? = some m := ⟨_, List.getElem?_eq_getElem hkl⟩
    obtain ⟨hm0, hm1, hmR⟩ := HNXL.out.2 m (List.mem_of_getElem? hm)
    obtain ⟨q, rfl⟩ : ∃ q : Nat, m = (q : Int) := ⟨m.toNat, by omega⟩
    have hqN : q < N := by omega
    rw [Int.toNat_natCast] at hmR
    have HRQ := hid_of hmR
    clear hmR
    have hqI : (q : Int) < (N : Int) := by omega
    have hnr := HTk.out.kept.ownsRow HO7.out (fun _ _ f => f)
    obtain ⟨gq, hgq, hcq⟩ : ∃ gq, nao = some ⟨gq, 0, none⟩ ∧ wr.cell? ⟨gq, k, none⟩ = some (.int .i64 (q : Int)) := by
     rcases hnr.2 with ⟨e, h0⟩ | ⟨gq, cap', cur, e, _⟩
     ·omega
     ·cases e
      refine ⟨gq, rfl, ?_⟩
      have := hnr.cells rfl k (.int .i64 (q : Int)) (by simp [ints, hm])
      rwa [Addr.add_lit, Nat.zero_add] at this
    subst hgq
    have HDR : Hid ((nx n).drop k = (q : Int) :: (nx n).drop (k + 1)) := by
     unfold Hid
     rw [List.drop_eq_getElem_cons hkl]
     congr 1
     exact (List.getElem?_eq_some_iff.1 hm).2
    clear hnr hm hkl hm0 hm1
    by_cases hqn : q = n
    ·subst hqn
     have b5 := cell_block _ _ 5 _ _ _ HTk.out.box
     obtain ⟨ca1, cf2⟩ := HTk.out.aAt q hqN
     have HTq := hid_of (HTk.out.setA q true)
     have HIq := hid_of (HIk.out.again q)
     have HOq := HOk
     have HZq := HZk
     have HIF : Hid ((if (q : Int) = (q : Int) then { σk with again := σk.again.set q true } else σk) = { σk with again := σk.again.set q true }) := if_pos rfl
     clear HTk HIk HOk HZk
     go_upto_region 10 with fail
     clear b5 ca1 cf2 hcq
     generalize wr.setCell ⟨ga, q, none⟩ (.bool true) = w8 at *
     have b1 := cell_block _ _ 1 _ _ _ HTq.out.box
     obtain ⟨ct1, cf1⟩ := HTq.out.tAt q hqN
     by_cases hz0 : ({ σk with again := σk.again.set q true }).turns.getD q 0 = 0
     ·rw [hz0] at ct1
      have HRC := hid_of (HREC.out ({ σk with again := σk.again.set q true }) q _ _ _ HIq.out hqN HRQ.out hz0 (by have h1 := HZq.out; have h2 := HZ.out; show zc σk.turns ≤ f; omega) HTq.out)
      have HL2 : Hid (∀ r, meetP nx f ({ σk with again := σk.again.set q true }) q = r → loopP (meetP nx f) q (nx q) (metS σ q) (t0 + 1) = loopP (meetP nx f) q ((nx q).drop (k + 1)) r.1 (minI ek r.2)) := fun r hr => by
       rw [HLP.out, HDR.out, loopP, Int.toNat_natCast, HIF.out, if_pos hz0, hr]
      clear hz0 HLP HDR HIF
      go_wp2_with fail
      refine HRC.out.mono ?_
      obtain ⟨r, hr⟩ : ∃ r, meetP nx f ({ σk with again := σk.again.set q true }) q = r := ⟨_, rfl⟩
      rw [hr]
      have HL3 := hid_of (HL2.out r hr)
      rintro e w9 ⟨rfl, hI9, ho9, hz9, vo9, vr9, hT9⟩
      obtain ⟨σ9, e9⟩ := r
      simp only at HL3 hI9 ho9 hz9 hT9
      have HI9 := hid_of hI9
      have HO9 : Hid (first + 1 ≤ σ9.opn.length) := Nat.le_trans HOq.out ho9
      have HZ9 : Hid (zc σ9.turns + 1 ≤ zc σ.turns) := by have := HZq.out; unfold Hid; omega
      have HT9 := hid_of hT9
      clear hI9 ho9 hz9 hT9 HRC HL2 hr b1 ct1 cf1
      go_wp2
      go_roundw
      case rel => exact ⟨k + 1, σ9, minI ek e9, vo9, vr9, by omega, rfl, by go_num, HI9, HT9, HO9, HZ9, HL3⟩
      case measure => simp [intOf]; omega
     ·have HL2 : Hid (loopP (meetP nx f) q (nx q) (metS σ q) (t0 + 1) = loopP (meetP nx f) q ((nx q).drop (k + 1)) ({ σk with again := σk.again.set q true }) (minI ek (({ σk with again := σk.again.set q true }).turns.getD q 0))) := by
       unfold Hid
       rw [HLP.out, HDR.out, loopP, Int.toNat_natCast, HIF.out, if_neg hz0]
      obtain ⟨tq, htq⟩ : ∃ t, ({ σk with again := σk.again.set q true }).turns.getD q 0 = t := ⟨_, rfl⟩
      rw [htq] at ct1 HL2 hz0
      have hzb : (tq == 0) = false := by simp; exact hz0
      clear hz0 htq HLP HDR HIF
      go_wp2
      go_roundw
      case rel => exact ⟨k + 1, _, minI ek tq, _, _, by omega, rfl, by go_num, HIq, HTq, HOq, HZq, HL2⟩
      case measure => simp [intOf]; omega
    ·have hqnI : ((q : Int) == (n : Int)) = false := by simp; omega
     have HIF : Hid ((if (q : Int) = (n : Int) then { σk with again := σk.again.set n true } else σk) = σk) := if_neg (by omega)
     have HTq := HTk
     have HIq := HIk
     have HOq := HOk
     have HZq := HZk
     have b1 := cell_block _ _ 1 _ _ _ HTq.out.box
     obtain ⟨ct1, cf1⟩ := HTq.out.tAt q hqN
     by_cases hz0 : (σk).turns.getD q 0 = 0
     ·rw [hz0] at ct1
      have HRC := hid_of (HREC.out (σk) q _ _ _ HIq.out hqN HRQ.out hz0 (by have h1 := HZq.out; have h2 := HZ.out; show zc σk.turns ≤ f; omega) HTq.out)
      have HL2 : Hid (∀ r, meetP nx f (σk) q = r → loopP (meetP nx f) n (nx n) (metS σ n) (t0 + 1) = loopP (meetP nx f) n ((nx n).drop (k + 1)) r.1 (minI ek r.2)) := fun r hr => by
       rw [HLP.out, HDR.out, loopP, Int.toNat_natCast, HIF.out, if_pos hz0, hr]
      clear hz0 HLP HDR HIF
      go_wp2_with fail
      refine HRC.out.mono ?_
      obtain ⟨r, hr⟩ : ∃ r, meetP nx f (σk) q = r := ⟨_, rfl⟩
      rw [hr]
      have HL3 := hid_of (HL2.out r hr)
      rintro e w9 ⟨rfl, hI9, ho9, hz9, vo9, vr9, hT9⟩
      obtain ⟨σ9, e9⟩ := r
      simp only at HL3 hI9 ho9 hz9 hT9
      have HI9 := hid_of hI9
      have HO9 : Hid (first + 1 ≤ σ9.opn.length) := Nat.le_trans HOq.out ho9
      have HZ9 : Hid (zc σ9.turns + 1 ≤ zc σ.turns) := by have := HZq.out; unfold Hid; omega
      have HT9 := hid_of hT9
      clear hI9 ho9 hz9 hT9 HRC HL2 hr b1 ct1 cf1
      go_wp2
      go_roundw
      case rel => exact ⟨k + 1, σ9, minI ek e9, vo9, vr9, by omega, rfl, by go_num, HI9, HT9, HO9, HZ9, HL3⟩
      case measure => simp [intOf]; omega
     ·have HL2 : Hid (loopP (meetP nx f) n (nx n) (metS σ n) (t0 + 1) = loopP (meetP nx f) n ((nx n).drop (k + 1)) (σk) (minI ek ((σk).turns.getD q 0))) := by
       unfold Hid
       rw [HLP.out, HDR.out, loopP, Int.toNat_natCast, HIF.out, if_neg hz0]
      obtain ⟨tq, htq⟩ : ∃ t, (σk).turns.getD q 0 = t := ⟨_, rfl⟩
      rw [htq] at ct1 HL2 hz0
      have hzb : (tq == 0) = false := by simp; exact hz0
      clear hz0 htq HLP HDR HIF
      go_wp2
      go_roundw
      case rel => exact ⟨k + 1, _, minI ek tq, _, _, by omega, rfl, by go_num, HIq, HTq, HOq, HZq, HL2⟩
      case measure => simp [intOf]; omega
   ·have e : k = nl := by omega
    subst e
    have hLP := HLP.out
    rw [List.drop_of_length_le (by rw [← HNL.out]; omega)] at hLP
    have hLP2 : loopP (meetP nx f) n (nx n) (metS σ n) (t0 + 1) = (σk, ek) := hLP
    have HMP : Hid (meetP nx (f + 1) σ n = if ek = t0 + 1 then (doneS first σk, ek) else (σk, ek)) := by
     unfold Hid
     rw [meetP, HT0.out, hLP2, HFI.out]
    have HF1 := hid_of (Nat.le_of_eq HFI.out.symm)
    clear hLP hLP2 HLP
    by_cases hee : ek = t0 + 1
    ·have HMP2 : Hid (meetP nx (f + 1) σ n = (doneS first σk, ek)) := by unfold Hid; rw [HMP.out, if_pos hee]
     obtain ⟨go, gc, hvo⟩ : ∃ go gc, vok = .slice (some ⟨go, 0, none⟩) σk.opn.length gc := by
      rcases HTk.out.op.2 with ⟨_, h0⟩ | ⟨go, gc, cur, e, _⟩
      ·have := HOk.out; omega
      ·exact ⟨go, gc, e⟩
     subst hvo
     obtain ⟨L, hL⟩ := nmd (σk.opn.length)
     have hcap : σk.opn.length ≤ gc := by
      rcases HTk.out.op.2 with ⟨e, _⟩ | ⟨g', cap', cur, e, _, _, hnc, _⟩
      ·cases e
      ·cases e; exact hnc
     have hfl : first < L := by have := HOk.out; omega
     have hdl : (σk.opn.drop first).length = L - first := by rw [List.length_drop, hL]
     have hcnt := HIk.out.cnt
     have HFIN := hid_of (fin_any HTk.out go first (gc - first) (σk.opn.drop first) rfl (fun j hj => by
      have := HTk.out.op.cells rfl (first + j) (.int .i64 ((σk.opn.drop first).getD j 0)) (by
       rw [List.length_drop] at hj
       simp [ints, List.getD, List.getElem?_drop, List.getElem?_eq_getElem (show first + j < σk.opn.length by omega)])
      rwa [Addr.add_lit, Nat.zero_add] at this) (fun m hm => ⟨(HIk.out.op m (List.mem_of_mem_drop hm)).1, (HIk.out.op m (List.mem_of_mem_drop hm)).2.1⟩) (by omega) (by omega) (by omega))
     rw [hdl] at HFIN
     have b3 := cell_block _ _ 3 _ _ _ HTk.out.box
     rw [← hL] at b3 hcap
     have hne : gc ≠ first := by omega
     have hfL : (first : Int) ≤ (L : Int) := by omega
     have HL := hid_of hL
     have HCAP := hid_of hcap
     have heb : ((t0 + 1) == (t0 + 1)) = true := by simp
     subst hee
     clear hL hdl hcnt HMP HTk
     go_wp2_with fail
     refine HFIN.out.mono ?_
     rintro e w9 ⟨rfl, vr9, hT9⟩
     have c3 := cell_block _ _ 3 _ _ _ hT9.box
     have f3 := frozen_block _ _ 3 _ _ hT9.box
     have hop : OwnN w9 w.heap.size (.slice (some ⟨go, 0, none⟩) (σk.opn.take first).length gc) (σk.opn.take first) := by
      have h9 : OwnN w9 w.heap.size (.slice (some ⟨go, 0, none⟩) σk.opn.length gc) σk.opn := hT9.op
      refine ⟨by simp [ints], ?_⟩
      rcases h9.2 with ⟨e, _⟩ | ⟨g', cap', cur, e, hb, hgg, hnc, hm, hs, ht⟩
      ·cases e
      ·cases e
       refine .inr ⟨go, gc, cur, rfl, hb, hgg, by rw [List.length_take]; omega, hm, hs, ?_⟩
       rw [ints_take, ← ht, List.take_take, List.length_take]
       congr 1
       have := HL.out
       omega
     have htl : (σk.opn.take first).length = first := by rw [List.length_take, ← HL.out]; omega
     obtain ⟨_, hTF⟩ := hT9.putO (W := w9) (Kept.refl _ _) hop (.inl rfl)
     rw [htl] at hTF
     have HTF : Hid (Tr w (w9.setCell ⟨a, 3, none⟩ (.slice (some ⟨go, 0, none⟩) first gc)) N a (.func (.func 63) #[] #[cap]) gt ct (.slice (some ⟨go, 0, none⟩) first gc) vr9 ga ca (doneS first σk)) := hTF
     obtain ⟨hD1, hD2⟩ := HIk.out.done first
     have HD1 := hid_of hD1
     have HD2 : Hid (zc (doneS first σk).turns + 1 ≤ zc σ.turns) := Nat.le_trans (Nat.succ_le_succ hD2) HZk.out
     have HD3 : Hid (σ.opn.length ≤ (doneS first σk).opn.length) := by
      show _ ≤ (σk.opn.take first).length
      rw [htl]
      exact HF1.out
     rw [← HL.out] at c3
     clear hT9 hop hTF hD1 hD2 htl b3
     go_wp2
     go_ret
     unfold MetR
     rw [HMP2.out]
     exact ⟨rfl, HD1.out, HD3.out, HD2.out, _, _, HTF.out⟩
    ·have HMP2 : Hid (meetP nx (f + 1) σ n = (σk, ek)) := by unfold Hid; rw [HMP.out, if_neg hee]
     have heb : (ek == (t0 + 1)) = false := by simp; exact hee
     have HOF : Hid (σ.opn.length ≤ σk.opn.length) := by have h1 := HOk.out; have h2 := HF1.out; unfold Hid; omega
     clear HMP hee
     go_wp2
     go_ret
     unfold MetR
     rw [HMP2.out]
     exact ⟨rfl, HIk.out, HOF.out, HZk.out, _, _, HTk.out⟩
set_option maxHeartbeats 16000000 in
theorem meet_66 (w : World) (N a : Nat) (cap : Value) (gt ct ga ca : Nat) (nx : Nat → List Int) (R : Nat → Prop) (hN : N ≤ 5000) (hnl : ∀ n, n < N → R n → (nx n).length ≤ 5000 ∧ ∀ m ∈ nx n, 0 ≤ m ∧ m < N ∧ R m.toNat)
  (hnx : ∀ n, n < N → ∀ W, KF w W → Calls Tryz.prog 66 #[.int .i64 (n : Int), cap] W fun e w' => (∃ v, e = .returned v ∧ OwnN w 0 v (nx n)) ∧ w' = W) :
  ∀ (f : Nat) (σ : TS) (n : Nat) (w1 : World) (vo vr : Value), TI N R σ → n < N → R n → σ.turns.getD n 0 = 0 → zc σ.turns ≤ f → Tr w w1 N a (.func (.func 66) #[] #[cap]) gt ct vo vr ga ca σ →
   Calls Tryz.prog 88 #[.pointer (some ⟨a, 0, none⟩), .int .i64 (n : Int)] w1 (MetR w N R a (.func (.func 66) #[] #[cap]) gt ct ga ca σ (meetP nx f σ n))
 | 0, σ, n, w1, vo, vr, hI, hn, hR, h0, hz, hT => absurd (zc_pos (by rw [hI.tl]; exact hn) h0) (by omega)
 | f + 1, σ, n, w1, vo, vr, hI, hn, hR, h0, hz, hT => by
  have HREC := hid_of (meet_66 w N a cap gt ct ga ca nx R hN hnl hnx f)
  obtain ⟨hI1, hz1⟩ := hI.met hn hR h0
  have hnI : (n : Int) < (N : Int) := by omega
  obtain ⟨htn0, htn1⟩ := hI.tn
  have hb2 := cell_block _ _ 2 _ _ _ hT.box
  have hf2 := frozen_block _ _ 2 _ _ hT.box
  have hTa := hT.setN (σ.turn + 1)
  obtain ⟨t0, ht0⟩ : ∃ t, σ.turn = t := ⟨_, rfl⟩
  rw [ht0] at hb2 hTa htn0 htn1
  have HTa := hid_of hTa
  have HT0 := hid_of ht0
  have HI := hid_of hI
  have HI1 := hid_of hI1
  have HZ1 := hid_of hz1
  have HZ := hid_of hz
  have HNXL := hid_of (hnl n hn hR)
  have HNX := hid_of (hnx n hn)
  clear hTa hI hI1 hz1 hz ht0 hT h0 hnl hnx
  go_enter Tryz.func88, Tryz.ntmps88
  go_upto_region 2 with fail
  clear hb2 hf2
  generalize w1.setCell ⟨a, 2, none⟩ (.int .i64 (t0 + 1)) = w2 at *
  have b2 := cell_block _ _ 2 _ _ _ HTa.out.box
  have b3 := cell_block _ _ 3 _ _ _ HTa.out.box
  obtain ⟨oao, oc, hvo⟩ := ownsRow_shape HTa.out.op
  simp only at b2 b3 hvo
  obtain ⟨first, hfi⟩ := nmd (σ.opn.length)
  rw [← hfi] at hvo
  subst hvo
  have HFI := hid_of hfi
  clear hfi
  go_quiet (fail)
  have hT3 := HTa.out.same (drewN_kept w2 nq)
  clear b2 b3 HTa
  generalize w2.drewN nq = w3 at *
  have b1 := cell_block _ _ 1 _ _ _ hT3.box
  obtain ⟨ct1, cf1⟩ := hT3.tAt n hn
  have HT4 := hid_of (hT3.setT n (t0 + 1))
  clear hT3
  go_upto_region 4 with fail
  clear b1 ct1 cf1
  generalize w3.setCell ⟨gt, n, none⟩ (.int .i64 (t0 + 1)) = w4 at *
  have hkA : KF w4 (w4.alloc (.cells #[.int .i64 (n : Int)] 3)) := (Kept.refl _ _).alloc _
  have hTA := HT4.out.same hkA
  obtain ⟨v5, w5, hr5, ho5, hg5, hb5⟩ := app_num _ w.heap.size (.slice oao first oc) σ.opn ⟨w4.heap.size, 0, none⟩ 1 1 [(n : Int)] hTA.op rfl (fun j hj => by
   have : j = 0 := by omega
   subst this
   rw [Addr.add_lit, cell_block _ _ _ _ _ _ (heap_alloc_new w4 _)]
   rfl) (by have := HI.out.cnt; simp; omega) hTA.kept.size
  have hk5 : Kept (fun k => (Value.slice oao first oc).ownBlock = some k) (w4.alloc (.cells #[.int .i64 (n : Int)] 3)) w5 := (Kept.refl _ _).grown hg5 (fun k hk => .inr hk)
  obtain ⟨hbx, hT5⟩ := hTA.putO hk5 ho5 (by
   rcases hb5 with hb5 | hb5
   ·exact .inl hb5
   ·exact .inr ⟨_, hb5, Nat.le_refl _⟩)
  have hT5' : Tr w (w5.setCell ⟨a, 3, none⟩ v5) N a (.func (.func 66) #[] #[cap]) gt ct v5 vr ga ca (metS σ n) := by
   have e : metS σ n = { turns := σ.turns.set n (t0 + 1), turn := t0 + 1, opn := σ.opn ++ [(n : Int)], order := σ.order, again := σ.again } := by unfold metS; rw [HT0.out]
   rw [e]
   exact hT5
  have HT5 := hid_of hT5'
  have HR5 := hid_of hr5
  have b3 := cell_block _ _ 3 _ _ _ HT4.out.box
  have c3 := cell_block _ _ 3 _ _ _ hbx
  have f3 := frozen_block _ _ 3 _ _ hbx
  obtain ⟨ao5, c5, hv5⟩ := ownsRow_shape ho5
  have h5l : (σ.opn ++ [(n : Int)]).length = first + 1 := by rw [HFI.out]; simp
  rw [h5l] at hv5
  have hone5 : v5.oneCell' = true := by rw [hv5]; rfl
  subst hv5
  have HTR : Hid (Tr w (w5.setCell ⟨a, 3, none⟩ (.slice ao5 (first + 1) c5)) N a (.func (.func 66) #[] #[cap]) gt ct (.slice ao5 (first + 1) c5) vr ga ca (metS σ n)) := HT5.out
  clear hkA hTA ho5 hg5 hb5 hk5 hbx hT5 hT5' hr5 h5l HT4 HT5
  go_upto_region 5 with (at_builtin; refine wp_app2 rfl (.tmp 41) (.tmp 43) 30 30 rfl _ _ rfl rfl _ w5 HR5.out ?_)
  clear b3 c3 f3 HR5 hone5
  generalize w5.setCell ⟨a, 3, none⟩ (.slice ao5 (first + 1) c5) = w6 at *
  have b0 := cell_block _ _ 0 _ _ _ HTR.out.box
  have HNX6 := hid_of (HNX.out w6 HTR.out.kept)
  go_wp2_with fail
  refine HNX6.out.mono ?_
  rintro e w7 ⟨⟨v7, rfl, ho7⟩, hw7⟩
  have hw7 := hw7.symm
  subst hw7
  obtain ⟨nao, nc, hv7⟩ := ownsRow_shape ho7
  obtain ⟨nl, hnl⟩ := nmd ((nx n).length)
  rw [← hnl] at hv7
  subst hv7
  have HO7 := hid_of ho7
  have HNL := hid_of hnl
  clear HNX6 HNX b0 ho7 hnl
  have hnl5 : nl ≤ 5000 := by have := HNXL.out.1; have := HNL.out; omega
  go_wp2
  have HL0 : Hid (loopP (meetP nx f) n (nx n) (metS σ n) (t0 + 1) = loopP (meetP nx f) n ((nx n).drop 0) (metS σ n) (t0 + 1)) := rfl
  have HF0 : Hid (first + 1 ≤ (metS σ n).opn.length) := by unfold Hid metS; rw [HFI.out]; simp
  have HZ0 : Hid (zc (metS σ n).turns + 1 ≤ zc σ.turns) := Nat.le_of_eq HZ1.out
  go_loopw [6, 54] (fun ev iv wr => ∃ (k : Nat) (σk : TS) (ek : Int) (vok vrk : Value), k ≤ nl ∧ ev = .int .i64 ek ∧ iv = .int .i64 (k : Int) ∧ Hid (TI N R σk) ∧ Hid (Tr w wr N a (.func (.func 66) #[] #[cap]) gt ct vok vrk ga ca σk) ∧ Hid (first + 1 ≤ σk.opn.length) ∧ Hid (zc σk.turns + 1 ≤ zc σ.turns) ∧ Hid (loopP (meetP nx f) n (nx n) (metS σ n) (t0 + 1) = loopP (meetP nx f) n ((nx n).drop k) σk ek)) (fun _ iv _ => nl - (intOf iv).toNat)
  case atStart => exact ⟨0, metS σ n, t0 + 1, _, _, by omega, rfl, rfl, HI1, HTR, HF0, HZ0, HL0⟩
  case round =>
   clear HI1 HTR HF0 HZ0 HL0 HZ1
   obtain ⟨k, σk, ek, vok, vrk, hk, rfl, rfl, HIk, HTk, HOk, HZk, HLP⟩ := hrel
   by_cases hlt : k < nl
   ·have hltI : (k : Int) < (nl : Int) := by omega
    have hkl : k < (nx n).length := by rw [← HNL.out]; exact hlt
    obtain ⟨m, hm⟩ : ∃ m, (nx n)[k]? = some m := ⟨_, List.getElem?_eq_getElem hkl⟩
    obtain ⟨hm0, hm1, hmR⟩ := HNXL.out.2 m (List.mem_of_getElem? hm)
    obtain ⟨q, rfl⟩ : ∃ q : Nat, m = (q : Int) := ⟨m.toNat, by omega⟩
    have hqN : q < N := by omega
    rw [Int.toNat_natCast] at hmR
    have HRQ := hid_of hmR
    clear hmR
    have hqI : (q : Int) < (N : Int) := by omega
    have hnr := HTk.out.kept.ownsRow HO7.out (fun _ _ f => f)
    obtain ⟨gq, hgq, hcq⟩ : ∃ gq, nao = some ⟨gq, 0, none⟩ ∧ wr.cell? ⟨gq, k, none⟩ = some (.int .i64 (q : Int)) := by
     rcases hnr.2 with ⟨e, h0⟩ | ⟨gq, cap', cur, e, _⟩
     ·omega
     ·cases e
      refine ⟨gq, rfl, ?_⟩
      have := hnr.cells rfl k (.int .i64 (q : Int)) (by simp [ints, hm])
      rwa [Addr.add_lit, Nat.zero_add] at this
    subst hgq
    have HDR : Hid ((nx n).drop k = (q : Int) :: (nx n).drop (k + 1)) := by
     unfold Hid
     rw [List.drop_eq_getElem_cons hkl]
     congr 1
     exact (List.getElem?_eq_some_iff.1 hm).2
    clear hnr hm hkl hm0 hm1
    by_cases hqn : q = n
    ·subst hqn
     have b5 := cell_block _ _ 5 _ _ _ HTk.out.box
     obtain ⟨ca1, cf2⟩ := HTk.out.aAt q hqN
     have HTq := hid_of (HTk.out.setA q true)
     have HIq := hid_of (HIk.out.again q)
     have HOq := HOk
     have HZq := HZk
     have HIF : Hid ((if (q : Int) = (q : Int) then { σk with again := σk.again.set q true } else σk) = { σk with again := σk.again.set q true }) := if_pos rfl
     clear HTk HIk HOk HZk
     go_upto_region 10 with fail
     clear b5 ca1 cf2 hcq
     generalize wr.setCell ⟨ga, q, none⟩ (.bool true) = w8 at *
     have b1 := cell_block _ _ 1 _ _ _ HTq.out.box
     obtain ⟨ct1, cf1⟩ := HTq.out.tAt q hqN
     by_cases hz0 : ({ σk with again := σk.again.set q true }).turns.getD q 0 = 0
     ·rw [hz0] at ct1
      have HRC := hid_of (HREC.out ({ σk with again := σk.again.set q true }) q _ _ _ HIq.out hqN HRQ.out hz0 (by have h1 := HZq.out; have h2 := HZ.out; show zc σk.turns ≤ f; omega) HTq.out)
      have HL2 : Hid (∀ r, meetP nx f ({ σk with again := σk.again.set q true }) q = r → loopP (meetP nx f) q (nx q) (metS σ q) (t0 + 1) = loopP (meetP nx f) q ((nx q).drop (k + 1)) r.1 (minI ek r.2)) := fun r hr => by
       rw [HLP.out, HDR.out, loopP, Int.toNat_natCast, HIF.out, if_pos hz0, hr]
      clear hz0 HLP HDR HIF
      go_wp2_with fail
      refine HRC.out.mono ?_
      obtain ⟨r, hr⟩ : ∃ r, meetP nx f ({ σk with again := σk.again.set q true }) q = r := ⟨_, rfl⟩
      rw [hr]
      have HL3 := hid_of (HL2.out r hr)
      rintro e w9 ⟨rfl, hI9, ho9, hz9, vo9, vr9, hT9⟩
      obtain ⟨σ9, e9⟩ := r
      simp only at HL3 hI9 ho9 hz9 hT9
      have HI9 := hid_of hI9
      have HO9 : Hid (first + 1 ≤ σ9.opn.length) := Nat.le_trans HOq.out ho9
      have HZ9 : Hid (zc σ9.turns + 1 ≤ zc σ.turns) := by have := HZq.out; unfold Hid; omega
      have HT9 := hid_of hT9
      clear hI9 ho9 hz9 hT9 HRC HL2 hr b1 ct1 cf1
      go_wp2
      go_roundw
      case rel => exact ⟨k + 1, σ9, minI ek e9, vo9, vr9, by omega, rfl, by go_num, HI9, HT9, HO9, HZ9, HL3⟩
      case measure => simp [intOf]; omega
     ·have HL2 : Hid (loopP (meetP nx f) q (nx q) (metS σ q) (t0 + 1) = loopP (meetP nx f) q ((nx q).drop (k + 1)) ({ σk with again := σk.again.set q true }) (minI ek (({ σk with again := σk.again.set q true }).turns.getD q 0))) := by
       unfold Hid
       rw [HLP.out, HDR.out, loopP, Int.toNat_natCast, HIF.out, if_neg hz0]
      obtain ⟨tq, htq⟩ : ∃ t, ({ σk with again := σk.again.set q true }).turns.getD q 0 = t := ⟨_, rfl⟩
      rw [htq] at ct1 HL2 hz0
      have hzb : (tq == 0) = false := by simp; exact hz0
      clear hz0 htq HLP HDR HIF
      go_wp2
      go_roundw
      case rel => exact ⟨k + 1, _, minI ek tq, _, _, by omega, rfl, by go_num, HIq, HTq, HOq, HZq, HL2⟩
      case measure => simp [intOf]; omega
    ·have hqnI : ((q : Int) == (n : Int)) = false := by simp; omega
     have HIF : Hid ((if (q : Int) = (n : Int) then { σk with again := σk.again.set n true } else σk) = σk) := if_neg (by omega)
     have HTq := HTk
     have HIq := HIk
     have HOq := HOk
     have HZq := HZk
     have b1 := cell_block _ _ 1 _ _ _ HTq.out.box
     obtain ⟨ct1, cf1⟩ := HTq.out.tAt q hqN
     by_cases hz0 : (σk).turns.getD q 0 = 0
     ·rw [hz0] at ct1
      have HRC := hid_of (HREC.out (σk) q _ _ _ HIq.out hqN HRQ.out hz0 (by have h1 := HZq.out; have h2 := HZ.out; show zc σk.turns ≤ f; omega) HTq.out)
      have HL2 : Hid (∀ r, meetP nx f (σk) q = r → loopP (meetP nx f) n (nx n) (metS σ n) (t0 + 1) = loopP (meetP nx f) n ((nx n).drop (k + 1)) r.1 (minI ek r.2)) := fun r hr => by
       rw [HLP.out, HDR.out, loopP, Int.toNat_natCast, HIF.out, if_pos hz0, hr]
      clear hz0 HLP HDR HIF
      go_wp2_with fail
      refine HRC.out.mono ?_
      obtain ⟨r, hr⟩ : ∃ r, meetP nx f (σk) q = r := ⟨_, rfl⟩
      rw [hr]
      have HL3 := hid_of (HL2.out r hr)
      rintro e w9 ⟨rfl, hI9, ho9, hz9, vo9, vr9, hT9⟩
      obtain ⟨σ9, e9⟩ := r
      simp only at HL3 hI9 ho9 hz9 hT9
      have HI9 := hid_of hI9
      have HO9 : Hid (first + 1 ≤ σ9.opn.length) := Nat.le_trans HOq.out ho9
      have HZ9 : Hid (zc σ9.turns + 1 ≤ zc σ.turns) := by have := HZq.out; unfold Hid; omega
      have HT9 := hid_of hT9
      clear hI9 ho9 hz9 hT9 HRC HL2 hr b1 ct1 cf1
      go_wp2
      go_roundw
      case rel => exact ⟨k + 1, σ9, minI ek e9, vo9, vr9, by omega, rfl, by go_num, HI9, HT9, HO9, HZ9, HL3⟩
      case measure => simp [intOf]; omega
     ·have HL2 : Hid (loopP (meetP nx f) n (nx n) (metS σ n) (t0 + 1) = loopP (meetP nx f) n ((nx n).drop (k + 1)) (σk) (minI ek ((σk).turns.getD q 0))) := by
       unfold Hid
       rw [HLP.out, HDR.out, loopP, Int.toNat_natCast, HIF.out, if_neg hz0]
      obtain ⟨tq, htq⟩ : ∃ t, (σk).turns.getD q 0 = t := ⟨_, rfl⟩
      rw [htq] at ct1 HL2 hz0
      have hzb : (tq == 0) = false := by simp; exact hz0
      clear hz0 htq HLP HDR HIF
      go_wp2
      go_roundw
      case rel => exact ⟨k + 1, _, minI ek tq, _, _, by omega, rfl, by go_num, HIq, HTq, HOq, HZq, HL2⟩
      case measure => simp [intOf]; omega
   ·have e : k = nl := by omega
    subst e
    have hLP := HLP.out
    rw [List.drop_of_length_le (by rw [← HNL.out]; omega)] at hLP
    have hLP2 : loopP (meetP nx f) n (nx n) (metS σ n) (t0 + 1) = (σk, ek) := hLP
    have HMP : Hid (meetP nx (f + 1) σ n = if ek = t0 + 1 then (doneS first σk, ek) else (σk, ek)) := by
     unfold Hid
     rw [meetP, HT0.out, hLP2, HFI.out]
    have HF1 := hid_of (Nat.le_of_eq HFI.out.symm)
    clear hLP hLP2 HLP
    by_cases hee : ek = t0 + 1
    ·have HMP2 : Hid (meetP nx (f + 1) σ n = (doneS first σk, ek)) := by unfold Hid; rw [HMP.out, if_pos hee]
     obtain ⟨go, gc, hvo⟩ : ∃ go gc, vok = .slice (some ⟨go, 0, none⟩) σk.opn.length gc := by
      rcases HTk.out.op.2 with ⟨_, h0⟩ | ⟨go, gc, cur, e, _⟩
      ·have := HOk.out; omega
      ·exact ⟨go, gc, e⟩
     subst hvo
     obtain ⟨L, hL⟩ := nmd (σk.opn.length)
     have hcap : σk.opn.length ≤ gc := by
      rcases HTk.out.op.2 with ⟨e, _⟩ | ⟨g', cap', cur, e, _, _, hnc, _⟩
      ·cases e
      ·cases e; exact hnc
     have hfl : first < L := by have := HOk.out; omega
     have hdl : (σk.opn.drop first).length = L - first := by rw [List.length_drop, hL]
     have hcnt := HIk.out.cnt
     have HFIN := hid_of (fin_any HTk.out go first (gc - first) (σk.opn.drop first) rfl (fun j hj => by
      have := HTk.out.op.cells rfl (first + j) (.int .i64 ((σk.opn.drop first).getD j 0)) (by
       rw [List.length_drop] at hj
       simp [ints, List.getD, List.getElem?_drop, List.getElem?_eq_getElem (show first + j < σk.opn.length by omega)])
      rwa [Addr.add_lit, Nat.zero_add] at this) (fun m hm => ⟨(HIk.out.op m (List.mem_of_mem_drop hm)).1, (HIk.out.op m (List.mem_of_mem_drop hm)).2.1⟩) (by omega) (by omega) (by omega))
     rw [hdl] at HFIN
     have b3 := cell_block _ _ 3 _ _ _ HTk.out.box
     rw [← hL] at b3 hcap
     have hne : gc ≠ first := by omega
     have hfL : (first : Int) ≤ (L : Int) := by omega
     have HL := hid_of hL
     have HCAP := hid_of hcap
     have heb : ((t0 + 1) == (t0 + 1)) = true := by simp
     subst hee
     clear hL hdl hcnt HMP HTk
     go_wp2_with fail
     refine HFIN.out.mono ?_
     rintro e w9 ⟨rfl, vr9, hT9⟩
     have c3 := cell_block _ _ 3 _ _ _ hT9.box
     have f3 := frozen_block _ _ 3 _ _ hT9.box
     have hop : OwnN w9 w.heap.size (.slice (some ⟨go, 0, none⟩) (σk.opn.take first).length gc) (σk.opn.take first) := by
      have h9 : OwnN w9 w.heap.size (.slice (some ⟨go, 0, none⟩) σk.opn.length gc) σk.opn := hT9.op
      refine ⟨by simp [ints], ?_⟩
      rcases h9.2 with ⟨e, _⟩ | ⟨g', cap', cur, e, hb, hgg, hnc, hm, hs, ht⟩
      ·cases e
      ·cases e
       refine .inr ⟨go, gc, cur, rfl, hb, hgg, by rw [List.length_take]; omega, hm, hs, ?_⟩
       rw [ints_take, ← ht, List.take_take, List.length_take]
       congr 1
       have := HL.out
       omega
     have htl : (σk.opn.take first).length = first := by rw [List.length_take, ← HL.out]; omega
     obtain ⟨_, hTF⟩ := hT9.putO (W := w9) (Kept.refl _ _) hop (.inl rfl)
     rw [htl] at hTF
     have HTF : Hid (Tr w (w9.setCell ⟨a, 3, none⟩ (.slice (some ⟨go, 0, none⟩) first gc)) N a (.func (.func 66) #[] #[cap]) gt ct (.slice (some ⟨go, 0, none⟩) first gc) vr9 ga ca (doneS first σk)) := hTF
     obtain ⟨hD1, hD2⟩ := HIk.out.done first
     have HD1 := hid_of hD1
     have HD2 : Hid (zc (doneS first σk).turns + 1 ≤ zc σ.turns) := Nat.le_trans (Nat.succ_le_succ hD2) HZk.out
     have HD3 : Hid (σ.opn.length ≤ (doneS first σk).opn.length) := by
      show _ ≤ (σk.opn.take first).length
      rw [htl]
      exact HF1.out
     rw [← HL.out] at c3
     clear hT9 hop hTF hD1 hD2 htl b3
     go_wp2
     go_ret
     unfold MetR
     rw [HMP2.out]
     exact ⟨rfl, HD1.out, HD3.out, HD2.out, _, _, HTF.out⟩
    ·have HMP2 : Hid (meetP nx (f + 1) σ n = (σk, ek)) := by unfold Hid; rw [HMP.out, if_neg hee]
     have heb : (ek == (t0 + 1)) = false := by simp; exact hee
     have HOF : Hid (σ.opn.length ≤ σk.opn.length) := by have h1 := HOk.out; have h2 := HF1.out; unfold Hid; omega
     clear HMP hee
     go_wp2
     go_ret
     unfold MetR
     rw [HMP2.out]
     exact ⟨rfl, HIk.out, HOF.out, HZk.out, _, _, HTk.out⟩
end Go.Proofs.YtcaadgcfceommaaGreat

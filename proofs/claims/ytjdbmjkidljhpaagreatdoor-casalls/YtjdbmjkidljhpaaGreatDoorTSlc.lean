/-
 What a Store's All goes over, while what it doesn't hold is changed; it may be left.
-/
import Derived.Test.YtjdbmjkidljhpaaGreatDoorTCalla
import Derived.Test.YtjdbmjkidljhpaaGreatDoorTSlb
import Derived.Test.YtjdbmjkidljhpaaGreatDoorTRly
namespace Go.Proofs.YtjdbmjkidljhpaaGreatDoor
open Go.RowKit Go.Shelf
attribute [local go_sem] Oper.semAt_some
set_option linter.unusedVariables false
set_option linter.unusedSimpArgs false
set_option maxRecDepth 100000
theorem own_base {w : World} {B B' e s : Nat} {v : Value} {m : Nat} {l : List Value} (h : w.ownsRow B e s v m l) (hb : B' ≤ B) : w.ownsRow B' e s v m l := by
 refine ⟨h.1, ?_⟩
 rcases h.2 with h0 | ⟨g, cap, cur, h1, h2, h3⟩
 ·exact .inl h0
 ·exact .inr ⟨g, cap, cur, h1, Nat.le_trans hb h2, h3⟩
/-- bytes.Clone: the bytes lie in a row of their own. -/
theorem clone_own (bv : Value) (xs : List Int) (w : World) (hx : BIn w bv xs) (hn : xs.length ≤ 140737488355328) :
  Calls Tryz.prog 30 #[bv] w fun e w' => ∃ v', e = .returned v' ∧ BIn w' v' xs ∧ w'.ownsRow w.heap.size 5 1 v' xs.length (xs.map (Value.int .u8)) ∧ Kept (fun _ => False) w w' := by
 obtain ⟨ao, c, rfl, hc, h1⟩ := hx
 cases ao with
 | none =>
  have h0 : xs = [] := by
   rcases h1 with h1 | ⟨b, o, h, _⟩
   ·exact h1
   ·cases h
  subst h0
  refine (clone_nil c w).mono ?_
  rintro e w' ⟨rfl, rfl⟩
  exact ⟨_, rfl, ⟨none, 0, rfl, Nat.le_refl _, .inl rfl⟩, World.ownsRow_nil _ _ _ _, Kept.refl _ _⟩
 | some p =>
  have hcc : ∀ j u, (xs.map (Value.int .u8))[j]? = some u → w.cell? (p.add j) = some u := by
   intro j u hj
   have hjl : j < xs.length := by
    have := (List.getElem?_eq_some_iff.1 hj).1
    simpa using this
   rcases h1 with h1 | ⟨b, o, h, h1⟩
   ·rw [h1] at hjl; exact absurd hjl (Nat.not_lt_zero _)
   ·cases h
    rw [Addr.add_mid, h1 j hjl]
    simp [List.getElem?_map, List.getElem?_eq_getElem hjl] at hj
    simp [List.getD, List.getElem?_eq_getElem hjl, hj]
  refine (clone_row p xs.length c xs w rfl hn hcc).mono ?_
  rintro e w' ⟨v', rfl, ho, hb⟩
  exact ⟨v', rfl, (own_bin ho).1, ho, ⟨hb.os, hb.tape, hb.output, hb.size, fun k hk _ => hb.block k hk⟩⟩
theorem bin_keepsB {Z : Nat → Prop} {A B : World} {v : Value} {xs : List Int} (h : BIn A v xs) (hk : KeepsB Z A B) (hz : xs ≠ [] → ∀ g, v.ownBlock = some g → Z g) : BIn B v xs := by
 obtain ⟨ao, c, rfl, hc, h1⟩ := h
 refine ⟨ao, c, rfl, hc, ?_⟩
 by_cases h0 : xs = []
 ·exact .inl h0
 ·rcases h1 with h1 | ⟨b, o, rfl, h1⟩
  ·exact .inl h1
  ·exact .inr ⟨b, o, rfl, fun i hi => hk.cell (hz h0 b rfl) (h1 i hi)⟩
theorem frm_nc {o : Obj} (h : Frm o) : o.isCells = false := by
 rcases h with ⟨L, rfl⟩ | ⟨d, rfl⟩ <;> rfl
set_option maxHeartbeats 8000000 in
theorem all1_seqL (Y Yx Z : Nat → Prop) (hYZ : ∀ k, Z k → ¬ Y k) (hXZ : ∀ k, Z k → ¬ Yx k) (n : Nat) (hn : 4 ≤ n) (B0 B1 B2 r clock : Nat) (es : List En) (ds : List Dg) (ao : Option Addr) (cap : Nat) (w : World) (hR : RowAt w B1 B2 r clock es ds ao cap) (z0 : Z B0) (z1 : Z B1) (z2 : Z B2) (z3 : Z r) (z4 : ∀ g o, ao = some ⟨g, o, none⟩ → Z g) (hZ : ∀ k, Z k → k < w.heap.size) (hdl : ds.length ≤ 1000000000)
  (hB0 : B0 < w.heap.size) (hf : w.cell? ⟨B0, 0, none⟩ = some (.func (.func 55) #[] #[.pointer (some ⟨B1, 0, none⟩), .pointer (some ⟨B2, 0, none⟩)])) (hblob : ∀ e ∈ es, BIn w e.bv e.xs ∧ e.xs.length ≤ 1048576 ∧ (e.xs ≠ [] → ∀ g, e.bv.ownBlock = some g → Z g)) :
  SeqL n 29 #[.pointer (some ⟨B0, 0, none⟩)] (fun x : Eb es => #[dv x.1.1.1.k, x.1.2]) Y Yx Z (fun pre x A W => W.ownsRow A.heap.size 5 1 x.1.2 x.1.1.1.xs.length (x.1.1.1.xs.map (Value.int .u8)) ∧ ∃ d, ds[pre.length]? = some d ∧ d.1 = x.1.1.1.k) (fun ys => ys.map (·.1.1.1.k) = ds.map (·.1)) ds.length 3 w := fun l J Jx W hlW hW hYW hJ hJx hY h0 => by
 have hfW : W.cell? ⟨B0, 0, none⟩ = some (.func (.func 55) #[] #[.pointer (some ⟨B1, 0, none⟩), .pointer (some ⟨B2, 0, none⟩)]) := hW.cell z0 hf
 have HBL : Hid (∀ e ∈ es, BIn W e.bv e.xs) := fun e he => bin_keepsB (hblob e he).1 hW (hblob e he).2.2
 have HBD := hid_of hblob
 have HR : Hid (SeqL (n - 1) 55 #[.pointer (some ⟨B1, 0, none⟩), .pointer (some ⟨B2, 0, none⟩)] (fun x : Em es => #[dv x.1.k, x.1.bv]) Y (fun k => Yx k ∨ k = l) Z (fun pre x _ _ => ∃ d, ds[pre.length]? = some d ∧ d.1 = x.1.k) (fun ys => ys.map (·.1.k) = ds.map (·.1)) ds.length 0 w) := row_ownL Y (fun k => Yx k ∨ k = l) Z hYZ (n - 1) (by omega) B1 B2 r clock es ds ao cap w hR z1 z2 z3 z4 hZ hdl
 have HY := hid_of hY
 have HLEN : Hid (∀ x : Em es, x.1.k.length = 32) := fun x => (hR.len x.1 x.2).1
 have HJ := hid_of hJ
 have hJk : ∀ pre A B, J pre A → Kept (fun _ => False) A B → J pre B := fun pre A B h k => hJ.kept h k
 have HJX := hid_of hJx
 have HJK := hid_of hJk
 have H0 := hid_of h0
 have HKB := hid_of hW
 have hWs := hW.size
 have HZ := hid_of hZ
 have hfV : (W.alloc (.cells #[.func (.yield l) #[] #[]] 70)).cell? ⟨B0, 0, none⟩ = some (.func (.func 55) #[] #[.pointer (some ⟨B1, 0, none⟩), .pointer (some ⟨B2, 0, none⟩)]) := ((Kept.refl (fun _ => False) W).alloc _).cell hfW (fun f => f)
 clear hf hblob hY hJ hJx hJk h0 hW hR z0 z1 z2 z3 z4 hB0 hZ
 refine callsIn_of_wp_marks Tryz.func29 rfl trivial ?_ rfl
 simp only [Tryz.ntmps29, List.size_toArray, List.length_cons, List.length_nil, Nat.reduceAdd, Nat.reduceSub, Array.replicate_succ, Array.replicate_zero, List.push_toArray, List.append_toArray, List.nil_append, List.cons_append]
 gi_wp2
 have b0 := Boxed.new W 70 (.func (.yield l) #[] #[])
 have hk0 : Kept (fun _ => False) W (W.alloc (.cells #[.func (.yield l) #[] #[]] 70)) := (Kept.refl _ W).alloc _
 obtain ⟨V, hV⟩ : ∃ V, W.alloc (.cells #[.func (.yield l) #[] #[]] 70) = V := ⟨_, rfl⟩
 have hsV : V.heap.size = W.heap.size + 1 := by rw [← hV]; simp
 rw [hV] at b0 hk0 hfV ⊢
 clear hV
 have HK0 := hid_of hk0
 have HB0 := hid_of b0
 clear hk0 b0
 have HIO : Hid (OwnL V.heap.size (fun (pre : List (Em es)) W2 => ∃ pre' : List (Eb es), pre'.map (·.1.1) = pre ∧ J pre' W2 ∧ Boxed W2 W.heap.size 70 (.func (.yield l) #[] #[]) ∧ (∀ e ∈ es, BIn W2 e.bv e.xs) ∧ W.heap.size + 1 ≤ W2.heap.size)) := by
  rintro pre A C rw ⟨pre', hp, hj, hb, hbl, hs⟩ hg hr
  have hr' : ∀ r, rw = some r → V.heap.size ≤ r ∧ ∃ o : Obj, A.heap[r]? = some o ∧ o.isCells = false := fun r e => by
   obtain ⟨h1, o, h2, h3⟩ := hr r e
   exact ⟨h1, o, h2, frm_nc h3⟩
  exact ⟨pre', hp, HJ.out _ _ _ _ hj hg (fun r e => ⟨by have := (hr r e).1; omega, (hr r e).2⟩), box_stay hb hg hr', fun e he => bin_stay (hbl e he) hg hr', Nat.le_trans hs hg.size⟩
 refine range_seqL (by omega) (gf := 55) (lb := #[.pointer (some ⟨B1, 0, none⟩), .pointer (some ⟨B2, 0, none⟩)]) rfl (enters_of Tryz.func55 (by kernel_rfl) rfl)
  (fun _ _ _ _ _ _ _ _ _ _ _ h => h) (fun _ _ _ _ _ _ h => h) HR.out (fun k hk => by
   have h1 : k < W.heap.size ∨ W.heap.size + 3 ≤ k := by
    rcases hk with h | h | h
    ·exact hYW k (.inl h)
    ·exact hYW k (.inr h)
    ·left; omega
   omega) (HKB.out.trans (KeepsB.of_kept HK0.out)) (fun x => by rfl)
  (fun pre W2 => ∃ pre' : List (Eb es), pre'.map (·.1.1) = pre ∧ J pre' W2 ∧ Boxed W2 W.heap.size 70 (.func (.yield l) #[] #[]) ∧ (∀ e ∈ es, BIn W2 e.bv e.xs) ∧ W.heap.size + 1 ≤ W2.heap.size) HIO.out Jx (fun _ A C rw h hg hr => HJX.out () A C rw h hg (fun r e => ⟨by have := (hr r e).1; omega, (hr r e).2⟩)) .ret .ret (.inl ⟨rfl, rfl⟩)
  ?h0 (fun x => (x.1.k.map (Value.int .u8)).toArray)
  (fun x B => #[.func (.yield l) #[] #[], .pointer (some ⟨B0, 0, none⟩), .pointer (some ⟨W.heap.size, 0, none⟩), .pointer (some ⟨B, 0, none⟩), x.1.bv, .func (.func 55) #[] #[.pointer (some ⟨B1, 0, none⟩), .pointer (some ⟨B2, 0, none⟩)], .agg (x.1.k.map (Value.int .u8)).toArray, x.1.bv, undef, undef, undef, undef, undef, undef])
  ?assign ?body ?done ?left
 case h0 => exact ⟨[], rfl, HJK.out _ _ _ H0.out HK0.out, HB0.out, fun e he => (HBL.out e he).kept2 HK0.out (fun _ _ _ f => f), by omega⟩
 case assign =>
  intro l' x W2 K hK
  have hkl := HLEN.out x
  have hds := size28_of x.1.k hkl
  have honed := oneCells .u8 x.1.k
  have HOD : Hid (32 = (x.1.k.map (Value.int .u8)).toArray.size) := by show 32 = _; simp [hkl]
  gi_wp2_with (refine inList_store_row rfl 29 _ _ rfl W2.heap.size (x.1.k.map (Value.int .u8)).toArray rfl rfl 29 _ (alloc_new _ _ rfl) hds HOD.out honed ?_; rw [setRow_new _ _ _ _ rfl])
  exact hK
 case body =>
  rintro l' pre x B A0 W2 hiA hAW hcx hBge hBk hl1 hl2 hlr hlt hbg
  have hbg2 : W.heap.size + 3 ≤ W2.heap.size := by have := hAW.size; omega
  obtain ⟨pre', hp, hj, hb, hbl, hs⟩ := HIO.out.kept hiA hAW
  clear hiA hAW hl1 hl2 hlr hbg
  have HCX : Hid (∃ d, ds[pre'.length]? = some d ∧ d.1 = x.1.k) := by
   show ∃ d, _
   rw [show pre'.length = pre.length by rw [← hp, List.length_map]]
   exact hcx
  clear hcx
  have hds := size28_of x.1.k (HLEN.out x)
  have HCL : Hid (∀ A, Kept (fun _ => False) W2 A → Calls Tryz.prog 30 #[x.1.bv] A fun e w' => ∃ v', e = .returned v' ∧ BIn w' v' x.1.xs ∧ w'.ownsRow W2.heap.size 5 1 v' x.1.xs.length (x.1.xs.map (Value.int .u8)) ∧ Kept (fun _ => False) A w') := fun A hA => (clone_own _ _ A ((hbl x.1 x.2).kept2 hA (fun _ _ _ f => f)) (by have := (HBD.out x.1 x.2).2.1; omega)).mono fun e w' h => by
   obtain ⟨v', h1, h2, h3, h4⟩ := h
   exact ⟨v', h1, h2, own_base h3 hA.size, h4⟩
  have HCB := hid_of hb.cell
  have HBX := hid_of hb
  have HBK := hid_of hBk
  have HJ2 := hid_of hj
  have HBL2 := hid_of hbl
  have HLT : Hid (pre'.length < ds.length) := by
   show _ < _
   rw [← hp, List.length_map] at hlt
   exact hlt
  have HP := hid_of hp
  have HK3 : Hid (Kept (fun _ => False) W2 W2.drew) := (Kept.refl _ W2).drew
  have HB3 : Hid (W2.drew.heap[B]? = some (.cells (x.1.k.map (Value.int .u8)).toArray 29 (0, 0))) := hBk
  have hc3 : W2.drew.cell? ⟨W.heap.size, 0, none⟩ = some (.func (.yield l) #[] #[]) := hb.cell
  have fin : Hid (∀ (w4 W5 : World) (p : Eb es), p.1.1 = x → Kept (fun _ => False) W2 w4 → J (pre' ++ [p]) W5 → Kept Y w4 W5 → Kept Y W2 W5 ∧ ∃ pre', pre'.map (·.1.1) = pre ++ [x] ∧ J pre' W5 ∧ Boxed W5 W.heap.size 70 (.func (.yield l) #[] #[]) ∧ (∀ e ∈ es, BIn W5 e.bv e.xs) ∧ W.heap.size + 1 ≤ W5.heap.size) := fun w4 W5 p hpx hk4 hJ5 hkq => by
   have hs4 := hk4.size
   refine ⟨(hk4.mono (fun _ _ f => f.elim)).trans hkq, pre' ++ [p], by rw [List.map_append, HP.out, ← hpx]; rfl, hJ5, ?_, fun e he => ?_, by have := hkq.size; omega⟩
   ·exact (hkq.block _ (by omega) (fun e => by have := hYW _ (.inl e); omega)).trans ((hk4.block _ (by omega) (fun f => f)).trans HBX.out)
   ·exact ((HBL2.out e he).kept2 hk4 (fun _ _ _ f => f)).kept2 hkq (fun h0 g hg => hYZ g ((HBD.out e he).2.2 h0 g hg))
  have finx : Hid (∀ w4 W5 : World, Kept (fun _ => False) W2 w4 → Jx W5 → Kept (fun k => Yx k ∨ k = l) w4 W5 → Kept (fun k => Yx k ∨ k = l) W2 W5 ∧ Jx W5) := fun w4 W5 hk4 hx hkq => ⟨(hk4.mono (fun _ _ f => f.elim)).trans hkq, hx⟩
  clear hp hj hb hbl hBk hlt
  gi_wp2
  refine wpIn_region_any (by kernel_rfl) ?_
  change wpAnyIn _ _ _ _ _ _ _ _ _ W2.drew
  generalize W2.drew = W3 at *
  refine wpAnyIn_ready (rs := [0, 1, 2]) (by kernel_rfl) (by simp) ?_
  refine AllReadyIn.cons rfl (fun K hK => ?_) ?_
  ·go_simp
   refine hK _ _ ?_
   clear hK K
   try simp only [Act.put, tdy]
   refine wpAnyIn_ready (rs := [1, 2]) (by kernel_rfl) (by simp) ?_
   refine AllReadyIn.cons rfl (fun K hK => ?_) ?_
   ·refine stIn_load28 rfl _ rfl B rfl 29 (x.1.k.map (Value.int .u8)).toArray (0, 0) HB3.out hds ?_
    refine hK _ _ ?_
    clear hK K
    try simp only [Act.put, tdy]
    refine wpAnyIn_ready (rs := [2]) (by kernel_rfl) (by simp) ?_
    refine AllReadyIn.cons rfl (fun K hK => ?_) .nil
    go_simp
    refine hK _ _ ?_
    clear hK K
    try simp only [Act.put, tdy]
    refine wpAnyIn_ready (rs := [3]) (by kernel_rfl) (by simp) ?_
    refine AllReadyIn.cons rfl (fun K hK => ?_) .nil
    go_simp
    refine ⟨trivial, (fun h => by cases h), (CallsIn.inRound l' (callsIn_wide.2 (HCL.out _ HK3.out))).mono ?_⟩
    rintro e w4 ⟨v', rfl, hbv, how, hk4⟩
    obtain ⟨ao', c', hvv, _, _⟩ := id hbv
    subst hvv
    have hK24 := HK3.out.trans hk4
    have HK24 := hid_of hK24
    have HB4 := hid_of ((hK24.block _ (heap_lt HBK.out) (fun f => f)).trans HBK.out)
    have hc4 : w4.cell? ⟨W.heap.size, 0, none⟩ = some (.func (.yield l) #[] #[]) := hK24.cell HCB.out (fun f => f)
    have HBV := hid_of hbv; have HOW := hid_of how; clear hbv hk4 hK24 how
    refine hK _ _ ?_
    clear hK K
    try simp only [Act.put, tdy]
    refine wpAnyIn_ready (rs := [4]) (by kernel_rfl) (by simp) ?_
    refine AllReadyIn.cons rfl (fun K hK => ?_) .nil
    obtain ⟨fn, tmps, assign, body, hy, hRn⟩ := HY.out pre' ⟨(x, .slice ao' x.1.xs.length c'), ⟨ao', c', rfl⟩⟩ W2 w4 HJ2.out HK24.out ⟨HOW.out, HCX.out⟩ HLT.out hbg2
    unfold dv at hy
    go_simp
    refine ⟨(fun h => by cases h), (round_any_n hRn).mono ?_⟩
    rintro e5 W5 (⟨rfl, hJ5, hk5⟩ | ⟨rfl, hJ5, hk5⟩)
    ·have HJ5 := hid_of hJ5
     have HKQ := hid_of hk5
     clear hJ5 hk5 hRn hy
     refine hK _ _ ?_
     clear hK K
     try simp only [Act.put, tdy]
     refine wpAnyIn_ready (rs := [5]) (by kernel_rfl) (by simp) ?_
     refine AllReadyIn.cons rfl (fun K hK => ?_) .nil
     go_simp
     refine hK _ _ ?_
     clear hK K
     try simp only [Act.put, tdy]
     refine wpAnyIn_done (by kernel_rfl) ?_ _
     gi_wp2
     first | exact fin.out _ _ _ rfl HK24.out HJ5.out HKQ.out | exact .inl ⟨rfl, fin.out _ _ _ rfl HK24.out HJ5.out HKQ.out⟩ | exact .inl (fin.out _ _ _ rfl HK24.out HJ5.out HKQ.out)
    ·have HJ5 := hid_of hJ5
     have HKQ := hid_of hk5
     clear hJ5 hk5 hRn hy
     refine hK _ _ ?_
     clear hK K
     try simp only [Act.put, tdy]
     refine wpAnyIn_ready (rs := [5]) (by kernel_rfl) (by simp) ?_
     refine AllReadyIn.cons rfl (fun K hK => ?_) .nil
     go_simp
     refine hK _ _ ?_
     clear hK K
     try simp only [Act.put, tdy]
     refine wpAnyIn_done (by kernel_rfl) ?_ _
     gi_wp2
     first | exact finx.out _ _ HK24.out HJ5.out HKQ.out | exact .inr ⟨rfl, finx.out _ _ HK24.out HJ5.out HKQ.out⟩ | exact .inr (finx.out _ _ HK24.out HJ5.out HKQ.out)
   refine AllReadyIn.cons rfl (fun K hK => ?_) .nil
   go_simp
   refine hK _ _ ?_
   clear hK K
   try simp only [Act.put, tdy]
   refine wpAnyIn_ready (rs := [1, 3]) (by kernel_rfl) (by simp) ?_
   refine AllReadyIn.cons rfl (fun K hK => ?_) ?_
   ·refine stIn_load28 rfl _ rfl B rfl 29 (x.1.k.map (Value.int .u8)).toArray (0, 0) HB3.out hds ?_
    refine hK _ _ ?_
    clear hK K
    try simp only [Act.put, tdy]
    refine wpAnyIn_ready (rs := [3]) (by kernel_rfl) (by simp) ?_
    refine AllReadyIn.cons rfl (fun K hK => ?_) .nil
    go_simp
    refine ⟨trivial, (fun h => by cases h), (CallsIn.inRound l' (callsIn_wide.2 (HCL.out _ HK3.out))).mono ?_⟩
    rintro e w4 ⟨v', rfl, hbv, how, hk4⟩
    obtain ⟨ao', c', hvv, _, _⟩ := id hbv
    subst hvv
    have hK24 := HK3.out.trans hk4
    have HK24 := hid_of hK24
    have HB4 := hid_of ((hK24.block _ (heap_lt HBK.out) (fun f => f)).trans HBK.out)
    have hc4 : w4.cell? ⟨W.heap.size, 0, none⟩ = some (.func (.yield l) #[] #[]) := hK24.cell HCB.out (fun f => f)
    have HBV := hid_of hbv; have HOW := hid_of how; clear hbv hk4 hK24 how
    refine hK _ _ ?_
    clear hK K
    try simp only [Act.put, tdy]
    refine wpAnyIn_ready (rs := [4]) (by kernel_rfl) (by simp) ?_
    refine AllReadyIn.cons rfl (fun K hK => ?_) .nil
    obtain ⟨fn, tmps, assign, body, hy, hRn⟩ := HY.out pre' ⟨(x, .slice ao' x.1.xs.length c'), ⟨ao', c', rfl⟩⟩ W2 w4 HJ2.out HK24.out ⟨HOW.out, HCX.out⟩ HLT.out hbg2
    unfold dv at hy
    go_simp
    refine ⟨(fun h => by cases h), (round_any_n hRn).mono ?_⟩
    rintro e5 W5 (⟨rfl, hJ5, hk5⟩ | ⟨rfl, hJ5, hk5⟩)
    ·have HJ5 := hid_of hJ5
     have HKQ := hid_of hk5
     clear hJ5 hk5 hRn hy
     refine hK _ _ ?_
     clear hK K
     try simp only [Act.put, tdy]
     refine wpAnyIn_ready (rs := [5]) (by kernel_rfl) (by simp) ?_
     refine AllReadyIn.cons rfl (fun K hK => ?_) .nil
     go_simp
     refine hK _ _ ?_
     clear hK K
     try simp only [Act.put, tdy]
     refine wpAnyIn_done (by kernel_rfl) ?_ _
     gi_wp2
     first | exact fin.out _ _ _ rfl HK24.out HJ5.out HKQ.out | exact .inl ⟨rfl, fin.out _ _ _ rfl HK24.out HJ5.out HKQ.out⟩ | exact .inl (fin.out _ _ _ rfl HK24.out HJ5.out HKQ.out)
    ·have HJ5 := hid_of hJ5
     have HKQ := hid_of hk5
     clear hJ5 hk5 hRn hy
     refine hK _ _ ?_
     clear hK K
     try simp only [Act.put, tdy]
     refine wpAnyIn_ready (rs := [5]) (by kernel_rfl) (by simp) ?_
     refine AllReadyIn.cons rfl (fun K hK => ?_) .nil
     go_simp
     refine hK _ _ ?_
     clear hK K
     try simp only [Act.put, tdy]
     refine wpAnyIn_done (by kernel_rfl) ?_ _
     gi_wp2
     first | exact finx.out _ _ HK24.out HJ5.out HKQ.out | exact .inr ⟨rfl, finx.out _ _ HK24.out HJ5.out HKQ.out⟩ | exact .inr (finx.out _ _ HK24.out HJ5.out HKQ.out)
   refine AllReadyIn.cons rfl (fun K hK => ?_) .nil
   go_simp
   refine ⟨trivial, (fun h => by cases h), (CallsIn.inRound l' (callsIn_wide.2 (HCL.out _ HK3.out))).mono ?_⟩
   rintro e w4 ⟨v', rfl, hbv, how, hk4⟩
   obtain ⟨ao', c', hvv, _, _⟩ := id hbv
   subst hvv
   have hK24 := HK3.out.trans hk4
   have HK24 := hid_of hK24
   have HB4 := hid_of ((hK24.block _ (heap_lt HBK.out) (fun f => f)).trans HBK.out)
   have hc4 : w4.cell? ⟨W.heap.size, 0, none⟩ = some (.func (.yield l) #[] #[]) := hK24.cell HCB.out (fun f => f)
   have HBV := hid_of hbv; have HOW := hid_of how; clear hbv hk4 hK24 how
   refine hK _ _ ?_
   clear hK K
   try simp only [Act.put, tdy]
   refine wpAnyIn_ready (rs := [1]) (by kernel_rfl) (by simp) ?_
   refine AllReadyIn.cons rfl (fun K hK => ?_) .nil
   refine stIn_load28 rfl _ rfl B rfl 29 (x.1.k.map (Value.int .u8)).toArray (0, 0) HB4.out hds ?_
   refine hK _ _ ?_
   clear hK K
   try simp only [Act.put, tdy]
   refine wpAnyIn_ready (rs := [4]) (by kernel_rfl) (by simp) ?_
   refine AllReadyIn.cons rfl (fun K hK => ?_) .nil
   obtain ⟨fn, tmps, assign, body, hy, hRn⟩ := HY.out pre' ⟨(x, .slice ao' x.1.xs.length c'), ⟨ao', c', rfl⟩⟩ W2 w4 HJ2.out HK24.out ⟨HOW.out, HCX.out⟩ HLT.out hbg2
   unfold dv at hy
   go_simp
   refine ⟨(fun h => by cases h), (round_any_n hRn).mono ?_⟩
   rintro e5 W5 (⟨rfl, hJ5, hk5⟩ | ⟨rfl, hJ5, hk5⟩)
   ·have HJ5 := hid_of hJ5
    have HKQ := hid_of hk5
    clear hJ5 hk5 hRn hy
    refine hK _ _ ?_
    clear hK K
    try simp only [Act.put, tdy]
    refine wpAnyIn_ready (rs := [5]) (by kernel_rfl) (by simp) ?_
    refine AllReadyIn.cons rfl (fun K hK => ?_) .nil
    go_simp
    refine hK _ _ ?_
    clear hK K
    try simp only [Act.put, tdy]
    refine wpAnyIn_done (by kernel_rfl) ?_ _
    gi_wp2
    first | exact fin.out _ _ _ rfl HK24.out HJ5.out HKQ.out | exact .inl ⟨rfl, fin.out _ _ _ rfl HK24.out HJ5.out HKQ.out⟩ | exact .inl (fin.out _ _ _ rfl HK24.out HJ5.out HKQ.out)
   ·have HJ5 := hid_of hJ5
    have HKQ := hid_of hk5
    clear hJ5 hk5 hRn hy
    refine hK _ _ ?_
    clear hK K
    try simp only [Act.put, tdy]
    refine wpAnyIn_ready (rs := [5]) (by kernel_rfl) (by simp) ?_
    refine AllReadyIn.cons rfl (fun K hK => ?_) .nil
    go_simp
    refine hK _ _ ?_
    clear hK K
    try simp only [Act.put, tdy]
    refine wpAnyIn_done (by kernel_rfl) ?_ _
    gi_wp2
    first | exact finx.out _ _ HK24.out HJ5.out HKQ.out | exact .inr ⟨rfl, finx.out _ _ HK24.out HJ5.out HKQ.out⟩ | exact .inr (finx.out _ _ HK24.out HJ5.out HKQ.out)
  refine AllReadyIn.cons rfl (fun K hK => ?_) ?_
  ·refine stIn_load28 rfl _ rfl B rfl 29 (x.1.k.map (Value.int .u8)).toArray (0, 0) HB3.out hds ?_
   refine hK _ _ ?_
   clear hK K
   try simp only [Act.put, tdy]
   refine wpAnyIn_ready (rs := [0, 2]) (by kernel_rfl) (by simp) ?_
   refine AllReadyIn.cons rfl (fun K hK => ?_) ?_
   ·go_simp
    refine hK _ _ ?_
    clear hK K
    try simp only [Act.put, tdy]
    refine wpAnyIn_ready (rs := [2]) (by kernel_rfl) (by simp) ?_
    refine AllReadyIn.cons rfl (fun K hK => ?_) .nil
    go_simp
    refine hK _ _ ?_
    clear hK K
    try simp only [Act.put, tdy]
    refine wpAnyIn_ready (rs := [3]) (by kernel_rfl) (by simp) ?_
    refine AllReadyIn.cons rfl (fun K hK => ?_) .nil
    go_simp
    refine ⟨trivial, (fun h => by cases h), (CallsIn.inRound l' (callsIn_wide.2 (HCL.out _ HK3.out))).mono ?_⟩
    rintro e w4 ⟨v', rfl, hbv, how, hk4⟩
    obtain ⟨ao', c', hvv, _, _⟩ := id hbv
    subst hvv
    have hK24 := HK3.out.trans hk4
    have HK24 := hid_of hK24
    have HB4 := hid_of ((hK24.block _ (heap_lt HBK.out) (fun f => f)).trans HBK.out)
    have hc4 : w4.cell? ⟨W.heap.size, 0, none⟩ = some (.func (.yield l) #[] #[]) := hK24.cell HCB.out (fun f => f)
    have HBV := hid_of hbv; have HOW := hid_of how; clear hbv hk4 hK24 how
    refine hK _ _ ?_
    clear hK K
    try simp only [Act.put, tdy]
    refine wpAnyIn_ready (rs := [4]) (by kernel_rfl) (by simp) ?_
    refine AllReadyIn.cons rfl (fun K hK => ?_) .nil
    obtain ⟨fn, tmps, assign, body, hy, hRn⟩ := HY.out pre' ⟨(x, .slice ao' x.1.xs.length c'), ⟨ao', c', rfl⟩⟩ W2 w4 HJ2.out HK24.out ⟨HOW.out, HCX.out⟩ HLT.out hbg2
    unfold dv at hy
    go_simp
    refine ⟨(fun h => by cases h), (round_any_n hRn).mono ?_⟩
    rintro e5 W5 (⟨rfl, hJ5, hk5⟩ | ⟨rfl, hJ5, hk5⟩)
    ·have HJ5 := hid_of hJ5
     have HKQ := hid_of hk5
     clear hJ5 hk5 hRn hy
     refine hK _ _ ?_
     clear hK K
     try simp only [Act.put, tdy]
     refine wpAnyIn_ready (rs := [5]) (by kernel_rfl) (by simp) ?_
     refine AllReadyIn.cons rfl (fun K hK => ?_) .nil
     go_simp
     refine hK _ _ ?_
     clear hK K
     try simp only [Act.put, tdy]
     refine wpAnyIn_done (by kernel_rfl) ?_ _
     gi_wp2
     first | exact fin.out _ _ _ rfl HK24.out HJ5.out HKQ.out | exact .inl ⟨rfl, fin.out _ _ _ rfl HK24.out HJ5.out HKQ.out⟩ | exact .inl (fin.out _ _ _ rfl HK24.out HJ5.out HKQ.out)
    ·have HJ5 := hid_of hJ5
     have HKQ := hid_of hk5
     clear hJ5 hk5 hRn hy
     refine hK _ _ ?_
     clear hK K
     try simp only [Act.put, tdy]
     refine wpAnyIn_ready (rs := [5]) (by kernel_rfl) (by simp) ?_
     refine AllReadyIn.cons rfl (fun K hK => ?_) .nil
     go_simp
     refine hK _ _ ?_
     clear hK K
     try simp only [Act.put, tdy]
     refine wpAnyIn_done (by kernel_rfl) ?_ _
     gi_wp2
     first | exact finx.out _ _ HK24.out HJ5.out HKQ.out | exact .inr ⟨rfl, finx.out _ _ HK24.out HJ5.out HKQ.out⟩ | exact .inr (finx.out _ _ HK24.out HJ5.out HKQ.out)
   refine AllReadyIn.cons rfl (fun K hK => ?_) .nil
   go_simp
   refine hK _ _ ?_
   clear hK K
   try simp only [Act.put, tdy]
   refine wpAnyIn_ready (rs := [0, 3]) (by kernel_rfl) (by simp) ?_
   refine AllReadyIn.cons rfl (fun K hK => ?_) ?_
   ·go_simp
    refine hK _ _ ?_
    clear hK K
    try simp only [Act.put, tdy]
    refine wpAnyIn_ready (rs := [3]) (by kernel_rfl) (by simp) ?_
    refine AllReadyIn.cons rfl (fun K hK => ?_) .nil
    go_simp
    refine ⟨trivial, (fun h => by cases h), (CallsIn.inRound l' (callsIn_wide.2 (HCL.out _ HK3.out))).mono ?_⟩
    rintro e w4 ⟨v', rfl, hbv, how, hk4⟩
    obtain ⟨ao', c', hvv, _, _⟩ := id hbv
    subst hvv
    have hK24 := HK3.out.trans hk4
    have HK24 := hid_of hK24
    have HB4 := hid_of ((hK24.block _ (heap_lt HBK.out) (fun f => f)).trans HBK.out)
    have hc4 : w4.cell? ⟨W.heap.size, 0, none⟩ = some (.func (.yield l) #[] #[]) := hK24.cell HCB.out (fun f => f)
    have HBV := hid_of hbv; have HOW := hid_of how; clear hbv hk4 hK24 how
    refine hK _ _ ?_
    clear hK K
    try simp only [Act.put, tdy]
    refine wpAnyIn_ready (rs := [4]) (by kernel_rfl) (by simp) ?_
    refine AllReadyIn.cons rfl (fun K hK => ?_) .nil
    obtain ⟨fn, tmps, assign, body, hy, hRn⟩ := HY.out pre' ⟨(x, .slice ao' x.1.xs.length c'), ⟨ao', c', rfl⟩⟩ W2 w4 HJ2.out HK24.out ⟨HOW.out, HCX.out⟩ HLT.out hbg2
    unfold dv at hy
    go_simp
    refine ⟨(fun h => by cases h), (round_any_n hRn).mono ?_⟩
    rintro e5 W5 (⟨rfl, hJ5, hk5⟩ | ⟨rfl, hJ5, hk5⟩)
    ·have HJ5 := hid_of hJ5
     have HKQ := hid_of hk5
     clear hJ5 hk5 hRn hy
     refine hK _ _ ?_
     clear hK K
     try simp only [Act.put, tdy]
     refine wpAnyIn_ready (rs := [5]) (by kernel_rfl) (by simp) ?_
     refine AllReadyIn.cons rfl (fun K hK => ?_) .nil
     go_simp
     refine hK _ _ ?_
     clear hK K
     try simp only [Act.put, tdy]
     refine wpAnyIn_done (by kernel_rfl) ?_ _
     gi_wp2
     first | exact fin.out _ _ _ rfl HK24.out HJ5.out HKQ.out | exact .inl ⟨rfl, fin.out _ _ _ rfl HK24.out HJ5.out HKQ.out⟩ | exact .inl (fin.out _ _ _ rfl HK24.out HJ5.out HKQ.out)
    ·have HJ5 := hid_of hJ5
     have HKQ := hid_of hk5
     clear hJ5 hk5 hRn hy
     refine hK _ _ ?_
     clear hK K
     try simp only [Act.put, tdy]
     refine wpAnyIn_ready (rs := [5]) (by kernel_rfl) (by simp) ?_
     refine AllReadyIn.cons rfl (fun K hK => ?_) .nil
     go_simp
     refine hK _ _ ?_
     clear hK K
     try simp only [Act.put, tdy]
     refine wpAnyIn_done (by kernel_rfl) ?_ _
     gi_wp2
     first | exact finx.out _ _ HK24.out HJ5.out HKQ.out | exact .inr ⟨rfl, finx.out _ _ HK24.out HJ5.out HKQ.out⟩ | exact .inr (finx.out _ _ HK24.out HJ5.out HKQ.out)
   refine AllReadyIn.cons rfl (fun K hK => ?_) .nil
   go_simp
   refine ⟨trivial, (fun h => by cases h), (CallsIn.inRound l' (callsIn_wide.2 (HCL.out _ HK3.out))).mono ?_⟩
   rintro e w4 ⟨v', rfl, hbv, how, hk4⟩
   obtain ⟨ao', c', hvv, _, _⟩ := id hbv
   subst hvv
   have hK24 := HK3.out.trans hk4
   have HK24 := hid_of hK24
   have HB4 := hid_of ((hK24.block _ (heap_lt HBK.out) (fun f => f)).trans HBK.out)
   have hc4 : w4.cell? ⟨W.heap.size, 0, none⟩ = some (.func (.yield l) #[] #[]) := hK24.cell HCB.out (fun f => f)
   have HBV := hid_of hbv; have HOW := hid_of how; clear hbv hk4 hK24 how
   refine hK _ _ ?_
   clear hK K
   try simp only [Act.put, tdy]
   refine wpAnyIn_ready (rs := [0]) (by kernel_rfl) (by simp) ?_
   refine AllReadyIn.cons rfl (fun K hK => ?_) .nil
   go_simp
   refine hK _ _ ?_
   clear hK K
   try simp only [Act.put, tdy]
   refine wpAnyIn_ready (rs := [4]) (by kernel_rfl) (by simp) ?_
   refine AllReadyIn.cons rfl (fun K hK => ?_) .nil
   obtain ⟨fn, tmps, assign, body, hy, hRn⟩ := HY.out pre' ⟨(x, .slice ao' x.1.xs.length c'), ⟨ao', c', rfl⟩⟩ W2 w4 HJ2.out HK24.out ⟨HOW.out, HCX.out⟩ HLT.out hbg2
   unfold dv at hy
   go_simp
   refine ⟨(fun h => by cases h), (round_any_n hRn).mono ?_⟩
   rintro e5 W5 (⟨rfl, hJ5, hk5⟩ | ⟨rfl, hJ5, hk5⟩)
   ·have HJ5 := hid_of hJ5
    have HKQ := hid_of hk5
    clear hJ5 hk5 hRn hy
    refine hK _ _ ?_
    clear hK K
    try simp only [Act.put, tdy]
    refine wpAnyIn_ready (rs := [5]) (by kernel_rfl) (by simp) ?_
    refine AllReadyIn.cons rfl (fun K hK => ?_) .nil
    go_simp
    refine hK _ _ ?_
    clear hK K
    try simp only [Act.put, tdy]
    refine wpAnyIn_done (by kernel_rfl) ?_ _
    gi_wp2
    first | exact fin.out _ _ _ rfl HK24.out HJ5.out HKQ.out | exact .inl ⟨rfl, fin.out _ _ _ rfl HK24.out HJ5.out HKQ.out⟩ | exact .inl (fin.out _ _ _ rfl HK24.out HJ5.out HKQ.out)
   ·have HJ5 := hid_of hJ5
    have HKQ := hid_of hk5
    clear hJ5 hk5 hRn hy
    refine hK _ _ ?_
    clear hK K
    try simp only [Act.put, tdy]
    refine wpAnyIn_ready (rs := [5]) (by kernel_rfl) (by simp) ?_
    refine AllReadyIn.cons rfl (fun K hK => ?_) .nil
    go_simp
    refine hK _ _ ?_
    clear hK K
    try simp only [Act.put, tdy]
    refine wpAnyIn_done (by kernel_rfl) ?_ _
    gi_wp2
    first | exact finx.out _ _ HK24.out HJ5.out HKQ.out | exact .inr ⟨rfl, finx.out _ _ HK24.out HJ5.out HKQ.out⟩ | exact .inr (finx.out _ _ HK24.out HJ5.out HKQ.out)
  refine AllReadyIn.cons rfl (fun K hK => ?_) .nil
  go_simp
  refine hK _ _ ?_
  clear hK K
  try simp only [Act.put, tdy]
  refine wpAnyIn_ready (rs := [0, 1, 3]) (by kernel_rfl) (by simp) ?_
  refine AllReadyIn.cons rfl (fun K hK => ?_) ?_
  ·go_simp
   refine hK _ _ ?_
   clear hK K
   try simp only [Act.put, tdy]
   refine wpAnyIn_ready (rs := [1, 3]) (by kernel_rfl) (by simp) ?_
   refine AllReadyIn.cons rfl (fun K hK => ?_) ?_
   ·refine stIn_load28 rfl _ rfl B rfl 29 (x.1.k.map (Value.int .u8)).toArray (0, 0) HB3.out hds ?_
    refine hK _ _ ?_
    clear hK K
    try simp only [Act.put, tdy]
    refine wpAnyIn_ready (rs := [3]) (by kernel_rfl) (by simp) ?_
    refine AllReadyIn.cons rfl (fun K hK => ?_) .nil
    go_simp
    refine ⟨trivial, (fun h => by cases h), (CallsIn.inRound l' (callsIn_wide.2 (HCL.out _ HK3.out))).mono ?_⟩
    rintro e w4 ⟨v', rfl, hbv, how, hk4⟩
    obtain ⟨ao', c', hvv, _, _⟩ := id hbv
    subst hvv
    have hK24 := HK3.out.trans hk4
    have HK24 := hid_of hK24
    have HB4 := hid_of ((hK24.block _ (heap_lt HBK.out) (fun f => f)).trans HBK.out)
    have hc4 : w4.cell? ⟨W.heap.size, 0, none⟩ = some (.func (.yield l) #[] #[]) := hK24.cell HCB.out (fun f => f)
    have HBV := hid_of hbv; have HOW := hid_of how; clear hbv hk4 hK24 how
    refine hK _ _ ?_
    clear hK K
    try simp only [Act.put, tdy]
    refine wpAnyIn_ready (rs := [4]) (by kernel_rfl) (by simp) ?_
    refine AllReadyIn.cons rfl (fun K hK => ?_) .nil
    obtain ⟨fn, tmps, assign, body, hy, hRn⟩ := HY.out pre' ⟨(x, .slice ao' x.1.xs.length c'), ⟨ao', c', rfl⟩⟩ W2 w4 HJ2.out HK24.out ⟨HOW.out, HCX.out⟩ HLT.out hbg2
    unfold dv at hy
    go_simp
    refine ⟨(fun h => by cases h), (round_any_n hRn).mono ?_⟩
    rintro e5 W5 (⟨rfl, hJ5, hk5⟩ | ⟨rfl, hJ5, hk5⟩)
    ·have HJ5 := hid_of hJ5
     have HKQ := hid_of hk5
     clear hJ5 hk5 hRn hy
     refine hK _ _ ?_
     clear hK K
     try simp only [Act.put, tdy]
     refine wpAnyIn_ready (rs := [5]) (by kernel_rfl) (by simp) ?_
     refine AllReadyIn.cons rfl (fun K hK => ?_) .nil
     go_simp
     refine hK _ _ ?_
     clear hK K
     try simp only [Act.put, tdy]
     refine wpAnyIn_done (by kernel_rfl) ?_ _
     gi_wp2
     first | exact fin.out _ _ _ rfl HK24.out HJ5.out HKQ.out | exact .inl ⟨rfl, fin.out _ _ _ rfl HK24.out HJ5.out HKQ.out⟩ | exact .inl (fin.out _ _ _ rfl HK24.out HJ5.out HKQ.out)
    ·have HJ5 := hid_of hJ5
     have HKQ := hid_of hk5
     clear hJ5 hk5 hRn hy
     refine hK _ _ ?_
     clear hK K
     try simp only [Act.put, tdy]
     refine wpAnyIn_ready (rs := [5]) (by kernel_rfl) (by simp) ?_
     refine AllReadyIn.cons rfl (fun K hK => ?_) .nil
     go_simp
     refine hK _ _ ?_
     clear hK K
     try simp only [Act.put, tdy]
     refine wpAnyIn_done (by kernel_rfl) ?_ _
     gi_wp2
     first | exact finx.out _ _ HK24.out HJ5.out HKQ.out | exact .inr ⟨rfl, finx.out _ _ HK24.out HJ5.out HKQ.out⟩ | exact .inr (finx.out _ _ HK24.out HJ5.out HKQ.out)
   refine AllReadyIn.cons rfl (fun K hK => ?_) .nil
   go_simp
   refine ⟨trivial, (fun h => by cases h), (CallsIn.inRound l' (callsIn_wide.2 (HCL.out _ HK3.out))).mono ?_⟩
   rintro e w4 ⟨v', rfl, hbv, how, hk4⟩
   obtain ⟨ao', c', hvv, _, _⟩ := id hbv
   subst hvv
   have hK24 := HK3.out.trans hk4
   have HK24 := hid_of hK24
   have HB4 := hid_of ((hK24.block _ (heap_lt HBK.out) (fun f => f)).trans HBK.out)
   have hc4 : w4.cell? ⟨W.heap.size, 0, none⟩ = some (.func (.yield l) #[] #[]) := hK24.cell HCB.out (fun f => f)
   have HBV := hid_of hbv; have HOW := hid_of how; clear hbv hk4 hK24 how
   refine hK _ _ ?_
   clear hK K
   try simp only [Act.put, tdy]
   refine wpAnyIn_ready (rs := [1]) (by kernel_rfl) (by simp) ?_
   refine AllReadyIn.cons rfl (fun K hK => ?_) .nil
   refine stIn_load28 rfl _ rfl B rfl 29 (x.1.k.map (Value.int .u8)).toArray (0, 0) HB4.out hds ?_
   refine hK _ _ ?_
   clear hK K
   try simp only [Act.put, tdy]
   refine wpAnyIn_ready (rs := [4]) (by kernel_rfl) (by simp) ?_
   refine AllReadyIn.cons rfl (fun K hK => ?_) .nil
   obtain ⟨fn, tmps, assign, body, hy, hRn⟩ := HY.out pre' ⟨(x, .slice ao' x.1.xs.length c'), ⟨ao', c', rfl⟩⟩ W2 w4 HJ2.out HK24.out ⟨HOW.out, HCX.out⟩ HLT.out hbg2
   unfold dv at hy
   go_simp
   refine ⟨(fun h => by cases h), (round_any_n hRn).mono ?_⟩
   rintro e5 W5 (⟨rfl, hJ5, hk5⟩ | ⟨rfl, hJ5, hk5⟩)
   ·have HJ5 := hid_of hJ5
    have HKQ := hid_of hk5
    clear hJ5 hk5 hRn hy
    refine hK _ _ ?_
    clear hK K
    try simp only [Act.put, tdy]
    refine wpAnyIn_ready (rs := [5]) (by kernel_rfl) (by simp) ?_
    refine AllReadyIn.cons rfl (fun K hK => ?_) .nil
    go_simp
    refine hK _ _ ?_
    clear hK K
    try simp only [Act.put, tdy]
    refine wpAnyIn_done (by kernel_rfl) ?_ _
    gi_wp2
    first | exact fin.out _ _ _ rfl HK24.out HJ5.out HKQ.out | exact .inl ⟨rfl, fin.out _ _ _ rfl HK24.out HJ5.out HKQ.out⟩ | exact .inl (fin.out _ _ _ rfl HK24.out HJ5.out HKQ.out)
   ·have HJ5 := hid_of hJ5
    have HKQ := hid_of hk5
    clear hJ5 hk5 hRn hy
    refine hK _ _ ?_
    clear hK K
    try simp only [Act.put, tdy]
    refine wpAnyIn_ready (rs := [5]) (by kernel_rfl) (by simp) ?_
    refine AllReadyIn.cons rfl (fun K hK => ?_) .nil
    go_simp
    refine hK _ _ ?_
    clear hK K
    try simp only [Act.put, tdy]
    refine wpAnyIn_done (by kernel_rfl) ?_ _
    gi_wp2
    first | exact finx.out _ _ HK24.out HJ5.out HKQ.out | exact .inr ⟨rfl, finx.out _ _ HK24.out HJ5.out HKQ.out⟩ | exact .inr (finx.out _ _ HK24.out HJ5.out HKQ.out)
  refine AllReadyIn.cons rfl (fun K hK => ?_) ?_
  ·refine stIn_load28 rfl _ rfl B rfl 29 (x.1.k.map (Value.int .u8)).toArray (0, 0) HB3.out hds ?_
   refine hK _ _ ?_
   clear hK K
   try simp only [Act.put, tdy]
   refine wpAnyIn_ready (rs := [0, 3]) (by kernel_rfl) (by simp) ?_
   refine AllReadyIn.cons rfl (fun K hK => ?_) ?_
   ·go_simp
    refine hK _ _ ?_
    clear hK K
    try simp only [Act.put, tdy]
    refine wpAnyIn_ready (rs := [3]) (by kernel_rfl) (by simp) ?_
    refine AllReadyIn.cons rfl (fun K hK => ?_) .nil
    go_simp
    refine ⟨trivial, (fun h => by cases h), (CallsIn.inRound l' (callsIn_wide.2 (HCL.out _ HK3.out))).mono ?_⟩
    rintro e w4 ⟨v', rfl, hbv, how, hk4⟩
    obtain ⟨ao', c', hvv, _, _⟩ := id hbv
    subst hvv
    have hK24 := HK3.out.trans hk4
    have HK24 := hid_of hK24
    have HB4 := hid_of ((hK24.block _ (heap_lt HBK.out) (fun f => f)).trans HBK.out)
    have hc4 : w4.cell? ⟨W.heap.size, 0, none⟩ = some (.func (.yield l) #[] #[]) := hK24.cell HCB.out (fun f => f)
    have HBV := hid_of hbv; have HOW := hid_of how; clear hbv hk4 hK24 how
    refine hK _ _ ?_
    clear hK K
    try simp only [Act.put, tdy]
    refine wpAnyIn_ready (rs := [4]) (by kernel_rfl) (by simp) ?_
    refine AllReadyIn.cons rfl (fun K hK => ?_) .nil
    obtain ⟨fn, tmps, assign, body, hy, hRn⟩ := HY.out pre' ⟨(x, .slice ao' x.1.xs.length c'), ⟨ao', c', rfl⟩⟩ W2 w4 HJ2.out HK24.out ⟨HOW.out, HCX.out⟩ HLT.out hbg2
    unfold dv at hy
    go_simp
    refine ⟨(fun h => by cases h), (round_any_n hRn).mono ?_⟩
    rintro e5 W5 (⟨rfl, hJ5, hk5⟩ | ⟨rfl, hJ5, hk5⟩)
    ·have HJ5 := hid_of hJ5
     have HKQ := hid_of hk5
     clear hJ5 hk5 hRn hy
     refine hK _ _ ?_
     clear hK K
     try simp only [Act.put, tdy]
     refine wpAnyIn_ready (rs := [5]) (by kernel_rfl) (by simp) ?_
     refine AllReadyIn.cons rfl (fun K hK => ?_) .nil
     go_simp
     refine hK _ _ ?_
     clear hK K
     try simp only [Act.put, tdy]
     refine wpAnyIn_done (by kernel_rfl) ?_ _
     gi_wp2
     first | exact fin.out _ _ _ rfl HK24.out HJ5.out HKQ.out | exact .inl ⟨rfl, fin.out _ _ _ rfl HK24.out HJ5.out HKQ.out⟩ | exact .inl (fin.out _ _ _ rfl HK24.out HJ5.out HKQ.out)
    ·have HJ5 := hid_of hJ5
     have HKQ := hid_of hk5
     clear hJ5 hk5 hRn hy
     refine hK _ _ ?_
     clear hK K
     try simp only [Act.put, tdy]
     refine wpAnyIn_ready (rs := [5]) (by kernel_rfl) (by simp) ?_
     refine AllReadyIn.cons rfl (fun K hK => ?_) .nil
     go_simp
     refine hK _ _ ?_
     clear hK K
     try simp only [Act.put, tdy]
     refine wpAnyIn_done (by kernel_rfl) ?_ _
     gi_wp2
     first | exact finx.out _ _ HK24.out HJ5.out HKQ.out | exact .inr ⟨rfl, finx.out _ _ HK24.out HJ5.out HKQ.out⟩ | exact .inr (finx.out _ _ HK24.out HJ5.out HKQ.out)
   refine AllReadyIn.cons rfl (fun K hK => ?_) .nil
   go_simp
   refine ⟨trivial, (fun h => by cases h), (CallsIn.inRound l' (callsIn_wide.2 (HCL.out _ HK3.out))).mono ?_⟩
   rintro e w4 ⟨v', rfl, hbv, how, hk4⟩
   obtain ⟨ao', c', hvv, _, _⟩ := id hbv
   subst hvv
   have hK24 := HK3.out.trans hk4
   have HK24 := hid_of hK24
   have HB4 := hid_of ((hK24.block _ (heap_lt HBK.out) (fun f => f)).trans HBK.out)
   have hc4 : w4.cell? ⟨W.heap.size, 0, none⟩ = some (.func (.yield l) #[] #[]) := hK24.cell HCB.out (fun f => f)
   have HBV := hid_of hbv; have HOW := hid_of how; clear hbv hk4 hK24 how
   refine hK _ _ ?_
   clear hK K
   try simp only [Act.put, tdy]
   refine wpAnyIn_ready (rs := [0]) (by kernel_rfl) (by simp) ?_
   refine AllReadyIn.cons rfl (fun K hK => ?_) .nil
   go_simp
   refine hK _ _ ?_
   clear hK K
   try simp only [Act.put, tdy]
   refine wpAnyIn_ready (rs := [4]) (by kernel_rfl) (by simp) ?_
   refine AllReadyIn.cons rfl (fun K hK => ?_) .nil
   obtain ⟨fn, tmps, assign, body, hy, hRn⟩ := HY.out pre' ⟨(x, .slice ao' x.1.xs.length c'), ⟨ao', c', rfl⟩⟩ W2 w4 HJ2.out HK24.out ⟨HOW.out, HCX.out⟩ HLT.out hbg2
   unfold dv at hy
   go_simp
   refine ⟨(fun h => by cases h), (round_any_n hRn).mono ?_⟩
   rintro e5 W5 (⟨rfl, hJ5, hk5⟩ | ⟨rfl, hJ5, hk5⟩)
   ·have HJ5 := hid_of hJ5
    have HKQ := hid_of hk5
    clear hJ5 hk5 hRn hy
    refine hK _ _ ?_
    clear hK K
    try simp only [Act.put, tdy]
    refine wpAnyIn_ready (rs := [5]) (by kernel_rfl) (by simp) ?_
    refine AllReadyIn.cons rfl (fun K hK => ?_) .nil
    go_simp
    refine hK _ _ ?_
    clear hK K
    try simp only [Act.put, tdy]
    refine wpAnyIn_done (by kernel_rfl) ?_ _
    gi_wp2
    first | exact fin.out _ _ _ rfl HK24.out HJ5.out HKQ.out | exact .inl ⟨rfl, fin.out _ _ _ rfl HK24.out HJ5.out HKQ.out⟩ | exact .inl (fin.out _ _ _ rfl HK24.out HJ5.out HKQ.out)
   ·have HJ5 := hid_of hJ5
    have HKQ := hid_of hk5
    clear hJ5 hk5 hRn hy
    refine hK _ _ ?_
    clear hK K
    try simp only [Act.put, tdy]
    refine wpAnyIn_ready (rs := [5]) (by kernel_rfl) (by simp) ?_
    refine AllReadyIn.cons rfl (fun K hK => ?_) .nil
    go_simp
    refine hK _ _ ?_
    clear hK K
    try simp only [Act.put, tdy]
    refine wpAnyIn_done (by kernel_rfl) ?_ _
    gi_wp2
    first | exact finx.out _ _ HK24.out HJ5.out HKQ.out | exact .inr ⟨rfl, finx.out _ _ HK24.out HJ5.out HKQ.out⟩ | exact .inr (finx.out _ _ HK24.out HJ5.out HKQ.out)
  refine AllReadyIn.cons rfl (fun K hK => ?_) .nil
  go_simp
  refine ⟨trivial, (fun h => by cases h), (CallsIn.inRound l' (callsIn_wide.2 (HCL.out _ HK3.out))).mono ?_⟩
  rintro e w4 ⟨v', rfl, hbv, how, hk4⟩
  obtain ⟨ao', c', hvv, _, _⟩ := id hbv
  subst hvv
  have hK24 := HK3.out.trans hk4
  have HK24 := hid_of hK24
  have HB4 := hid_of ((hK24.block _ (heap_lt HBK.out) (fun f => f)).trans HBK.out)
  have hc4 : w4.cell? ⟨W.heap.size, 0, none⟩ = some (.func (.yield l) #[] #[]) := hK24.cell HCB.out (fun f => f)
  have HBV := hid_of hbv; have HOW := hid_of how; clear hbv hk4 hK24 how
  refine hK _ _ ?_
  clear hK K
  try simp only [Act.put, tdy]
  refine wpAnyIn_ready (rs := [0, 1]) (by kernel_rfl) (by simp) ?_
  refine AllReadyIn.cons rfl (fun K hK => ?_) ?_
  ·go_simp
   refine hK _ _ ?_
   clear hK K
   try simp only [Act.put, tdy]
   refine wpAnyIn_ready (rs := [1]) (by kernel_rfl) (by simp) ?_
   refine AllReadyIn.cons rfl (fun K hK => ?_) .nil
   refine stIn_load28 rfl _ rfl B rfl 29 (x.1.k.map (Value.int .u8)).toArray (0, 0) HB4.out hds ?_
   refine hK _ _ ?_
   clear hK K
   try simp only [Act.put, tdy]
   refine wpAnyIn_ready (rs := [4]) (by kernel_rfl) (by simp) ?_
   refine AllReadyIn.cons rfl (fun K hK => ?_) .nil
   obtain ⟨fn, tmps, assign, body, hy, hRn⟩ := HY.out pre' ⟨(x, .slice ao' x.1.xs.length c'), ⟨ao', c', rfl⟩⟩ W2 w4 HJ2.out HK24.out ⟨HOW.out, HCX.out⟩ HLT.out hbg2
   unfold dv at hy
   go_simp
   refine ⟨(fun h => by cases h), (round_any_n hRn).mono ?_⟩
   rintro e5 W5 (⟨rfl, hJ5, hk5⟩ | ⟨rfl, hJ5, hk5⟩)
   ·have HJ5 := hid_of hJ5
    have HKQ := hid_of hk5
    clear hJ5 hk5 hRn hy
    refine hK _ _ ?_
    clear hK K
    try simp only [Act.put, tdy]
    refine wpAnyIn_ready (rs := [5]) (by kernel_rfl) (by simp) ?_
    refine AllReadyIn.cons rfl (fun K hK => ?_) .nil
    go_simp
    refine hK _ _ ?_
    clear hK K
    try simp only [Act.put, tdy]
    refine wpAnyIn_done (by kernel_rfl) ?_ _
    gi_wp2
    first | exact fin.out _ _ _ rfl HK24.out HJ5.out HKQ.out | exact .inl ⟨rfl, fin.out _ _ _ rfl HK24.out HJ5.out HKQ.out⟩ | exact .inl (fin.out _ _ _ rfl HK24.out HJ5.out HKQ.out)
   ·have HJ5 := hid_of hJ5
    have HKQ := hid_of hk5
    clear hJ5 hk5 hRn hy
    refine hK _ _ ?_
    clear hK K
    try simp only [Act.put, tdy]
    refine wpAnyIn_ready (rs := [5]) (by kernel_rfl) (by simp) ?_
    refine AllReadyIn.cons rfl (fun K hK => ?_) .nil
    go_simp
    refine hK _ _ ?_
    clear hK K
    try simp only [Act.put, tdy]
    refine wpAnyIn_done (by kernel_rfl) ?_ _
    gi_wp2
    first | exact finx.out _ _ HK24.out HJ5.out HKQ.out | exact .inr ⟨rfl, finx.out _ _ HK24.out HJ5.out HKQ.out⟩ | exact .inr (finx.out _ _ HK24.out HJ5.out HKQ.out)
  refine AllReadyIn.cons rfl (fun K hK => ?_) .nil
  refine stIn_load28 rfl _ rfl B rfl 29 (x.1.k.map (Value.int .u8)).toArray (0, 0) HB4.out hds ?_
  refine hK _ _ ?_
  clear hK K
  try simp only [Act.put, tdy]
  refine wpAnyIn_ready (rs := [0]) (by kernel_rfl) (by simp) ?_
  refine AllReadyIn.cons rfl (fun K hK => ?_) .nil
  go_simp
  refine hK _ _ ?_
  clear hK K
  try simp only [Act.put, tdy]
  refine wpAnyIn_ready (rs := [4]) (by kernel_rfl) (by simp) ?_
  refine AllReadyIn.cons rfl (fun K hK => ?_) .nil
  obtain ⟨fn, tmps, assign, body, hy, hRn⟩ := HY.out pre' ⟨(x, .slice ao' x.1.xs.length c'), ⟨ao', c', rfl⟩⟩ W2 w4 HJ2.out HK24.out ⟨HOW.out, HCX.out⟩ HLT.out hbg2
  unfold dv at hy
  go_simp
  refine ⟨(fun h => by cases h), (round_any_n hRn).mono ?_⟩
  rintro e5 W5 (⟨rfl, hJ5, hk5⟩ | ⟨rfl, hJ5, hk5⟩)
  ·have HJ5 := hid_of hJ5
   have HKQ := hid_of hk5
   clear hJ5 hk5 hRn hy
   refine hK _ _ ?_
   clear hK K
   try simp only [Act.put, tdy]
   refine wpAnyIn_ready (rs := [5]) (by kernel_rfl) (by simp) ?_
   refine AllReadyIn.cons rfl (fun K hK => ?_) .nil
   go_simp
   refine hK _ _ ?_
   clear hK K
   try simp only [Act.put, tdy]
   refine wpAnyIn_done (by kernel_rfl) ?_ _
   gi_wp2
   first | exact fin.out _ _ _ rfl HK24.out HJ5.out HKQ.out | exact .inl ⟨rfl, fin.out _ _ _ rfl HK24.out HJ5.out HKQ.out⟩ | exact .inl (fin.out _ _ _ rfl HK24.out HJ5.out HKQ.out)
  ·have HJ5 := hid_of hJ5
   have HKQ := hid_of hk5
   clear hJ5 hk5 hRn hy
   refine hK _ _ ?_
   clear hK K
   try simp only [Act.put, tdy]
   refine wpAnyIn_ready (rs := [5]) (by kernel_rfl) (by simp) ?_
   refine AllReadyIn.cons rfl (fun K hK => ?_) .nil
   go_simp
   refine hK _ _ ?_
   clear hK K
   try simp only [Act.put, tdy]
   refine wpAnyIn_done (by kernel_rfl) ?_ _
   gi_wp2
   first | exact finx.out _ _ HK24.out HJ5.out HKQ.out | exact .inr ⟨rfl, finx.out _ _ HK24.out HJ5.out HKQ.out⟩ | exact .inr (finx.out _ _ HK24.out HJ5.out HKQ.out)
 case done =>
  rintro D ys W2 hD hS ⟨pre', hp, hj, hb, hbl, hs⟩ hK
  have HS := hid_of hS
  have HK := hid_of hK
  have HP := hid_of hp
  have HJ2 := hid_of hj
  clear hS hK hj hp hb hbl
  gi_wp2
  refine ⟨by simp, .inl ⟨_, _, rfl, run_takeDeferred HK.out, ?_⟩⟩
  refine ⟨_, results_none rfl _ _ _, ⟨_, rfl⟩, .inl ⟨pre', ?_, HJ.out _ W2 _ (some D) HJ2.out (grownBy_putObj' W2 D _) (fun r e => by cases e; exact ⟨by omega, _, HK.out, .inr ⟨_, rfl⟩⟩)⟩⟩
  rw [← HS.out, ← HP.out, List.map_map]
  rfl
 case left =>
  rintro D W2 hD hx hK
  have HK := hid_of hK
  have HX := hid_of hx
  clear hK hx
  gi_wp2
  refine ⟨by simp, .inl ⟨_, _, rfl, run_takeDeferred HK.out, ?_⟩⟩
  exact ⟨_, results_none rfl _ _ _, ⟨_, rfl⟩, .inr (HJX.out () W2 _ (some D) HX.out (grownBy_putObj' W2 D _) (fun r e => by cases e; exact ⟨by omega, _, HK.out, .inr ⟨_, rfl⟩⟩))⟩
end Go.Proofs.YtjdbmjkidljhpaaGreatDoor

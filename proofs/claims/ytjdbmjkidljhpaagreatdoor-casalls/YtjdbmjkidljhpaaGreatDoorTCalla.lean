/-
 What a Store's All goes over.
-/
import Derived.Test.YtjdbmjkidljhpaaGreatDoorTCro
namespace Go.Proofs.YtjdbmjkidljhpaaGreatDoor
open Go.RowKit Go.Shelf
attribute [local go_sem] Oper.semAt_some
set_option linter.unusedVariables false
set_option linter.unusedSimpArgs false
set_option maxRecDepth 100000
theorem round_any_n {n m l l' : Nat} {f : FuncId} {tmps : Array Value} {assign body : Code} {w : World} {R : Ending → World → Prop} (h : RoundIn Fence.wide n Tryz.prog l f tmps assign body w R) : RoundIn (Fence.wide.inRound l') m Tryz.prog l f tmps assign body w R := ⟨h.1, fun c cs _ => h.2 c cs (fun d hd => by cases hd)⟩
/-- An entry, and a slice of as many bytes as it has. -/
abbrev Eb (es : List En) := { p : Em es × Value // ∃ ao c, p.2 = .slice ao p.1.1.xs.length c }
theorem bin_stay {B : Nat} {A C : World} {rw : Option Nat} {v : Value} {xs : List Int} (h : BIn A v xs) (hg : A.grownBy C rw) (hr : ∀ r, rw = some r → B ≤ r ∧ ∃ o : Obj, A.heap[r]? = some o ∧ o.isCells = false) : BIn C v xs := by
 refine h.kept2 (S := fun k => rw = some k) ⟨hg.os, hg.tape, hg.output, hg.size, fun k hk hn => hg.block k hk (fun e => hn e.symm)⟩ (fun h0 g hgb e => ?_)
 obtain ⟨i, u, hu⟩ := h.lt h0 g hgb
 obtain ⟨c, t, f, h2⟩ := cell_cells hu
 obtain ⟨_, o, h3, h4⟩ := hr g e
 rw [h2] at h3
 cases h3
 cases h4
set_option maxHeartbeats 8000000 in
theorem all1_seq (Y Z : Nat → Prop) (hYZ : ∀ k, Z k → ¬ Y k) (n : Nat) (hn : 4 ≤ n) (B0 B1 B2 r clock : Nat) (es : List En) (ds : List Dg) (ao : Option Addr) (cap : Nat) (w : World) (hR : RowAt w B1 B2 r clock es ds ao cap) (z1 : Z B1) (z2 : Z B2) (z3 : Z r) (z4 : ∀ g o, ao = some ⟨g, o, none⟩ → Z g) (hZ : ∀ k, Z k → k < w.heap.size) (hdl : ds.length ≤ 1000000000)
  (hB0 : B0 < w.heap.size) (hf : w.cell? ⟨B0, 0, none⟩ = some (.func (.func 55) #[] #[.pointer (some ⟨B1, 0, none⟩), .pointer (some ⟨B2, 0, none⟩)])) (hblob : ∀ e ∈ es, BIn w e.bv e.xs ∧ e.xs.length ≤ 1048576 ∧ (e.xs ≠ [] → ∀ g, e.bv.ownBlock = some g → Z g)) :
  SeqOwn n 29 #[.pointer (some ⟨B0, 0, none⟩)] (fun x : Eb es => #[dv x.1.1.1.k, x.1.2]) Y (fun pre x W => BIn W x.1.2 x.1.1.1.xs ∧ ∃ d, ds[pre.length]? = some d ∧ d.1 = x.1.1.1.k) (fun ys => ys.map (·.1.1.1.k) = ds.map (·.1)) ds.length w := fun l J W hW hYW hJ hY h0 => by
 have hfW : W.cell? ⟨B0, 0, none⟩ = some (.func (.func 55) #[] #[.pointer (some ⟨B1, 0, none⟩), .pointer (some ⟨B2, 0, none⟩)]) := (hW.cell (p := ⟨B0, 0, none⟩) hB0).trans hf
 have HBL : Hid (∀ e ∈ es, BIn W e.bv e.xs) := fun e he => (hblob e he).1.kept2 (S := fun k => w.heap.size ≤ k) ⟨hW.os, hW.tape, hW.output, hW.size, fun k hk hn => hW.block k (by omega)⟩ (fun h0 g hg => by have := hZ g ((hblob e he).2.2 h0 g hg); omega)
 have HBD := hid_of hblob
 have HR : Hid (∀ W', Below w.heap.size w W' → SeqOwn (n - 1) 55 #[.pointer (some ⟨B1, 0, none⟩), .pointer (some ⟨B2, 0, none⟩)] (fun x : Em es => #[dv x.1.k, x.1.bv]) Y (fun pre x _ => ∃ d, ds[pre.length]? = some d ∧ d.1 = x.1.k) (fun ys => ys.map (·.1.k) = ds.map (·.1)) ds.length w) := fun _ _ => row_own Y Z hYZ (n - 1) (by omega) B1 B2 r clock es ds ao cap w hR z1 z2 z3 z4 hZ hdl
 have HY := hid_of hY
 have HLEN : Hid (∀ x : Em es, x.1.k.length = 32) := fun x => (hR.len x.1 x.2).1
 have HJ := hid_of hJ
 have hJk : ∀ pre A B, J pre A → Kept (fun _ => False) A B → J pre B := fun pre A B h k => hJ pre A B none h k.grow (fun r e => by cases e)
 have HJK := hid_of hJk
 have H0 := hid_of h0
 have HW := hid_of hW
 have hWs := hW.size
 have HZ := hid_of hZ
 have hfV : (W.alloc (.cells #[.func (.yield l) #[] #[]] 70)).cell? ⟨B0, 0, none⟩ = some (.func (.func 55) #[] #[.pointer (some ⟨B1, 0, none⟩), .pointer (some ⟨B2, 0, none⟩)]) := ((Kept.refl (fun _ => False) W).alloc _).cell hfW (fun f => f)
 clear hf hblob hY hJ hJk h0 hW hR z1 z2 z3 z4 hB0 hZ
 refine callsIn_of_wp_marks Tryz.func29 rfl trivial ?_ rfl
 simp only [Tryz.ntmps29, List.size_toArray, List.length_cons, List.length_nil, Nat.reduceAdd, Nat.reduceSub, Array.replicate_succ, Array.replicate_zero, List.push_toArray, List.append_toArray, List.nil_append, List.cons_append]
 gi_wp2
 have b0 := Boxed.new W 70 (.func (.yield l) #[] #[])
 have hk0 : Kept (fun _ => False) W (W.alloc (.cells #[.func (.yield l) #[] #[]] 70)) := (Kept.refl _ W).alloc _
 obtain ⟨V, hV⟩ : ∃ V, W.alloc (.cells #[.func (.yield l) #[] #[]] 70) = V := ⟨_, rfl⟩
 have hsV : V.heap.size = W.heap.size + 1 := by rw [← hV]; simp
 rw [hV] at b0 hk0 hfV ⊢
 clear hV
 have HK0 := hid_of hk0
 have HB0 := hid_of b0
 clear hk0 b0
 refine range_seqE (by omega) (gf := 55) (lb := #[.pointer (some ⟨B1, 0, none⟩), .pointer (some ⟨B2, 0, none⟩)]) rfl (enters_of Tryz.func55 (by kernel_rfl) rfl)
  (fun _ _ _ _ _ _ _ _ h => h) (fun _ _ _ _ _ h => h) (HR.out W HW.out) (fun k hk => by have := hYW k hk; omega) (HW.out.trans (HK0.out.below hWs (fun _ f => f.elim))) (fun x => by rfl)
  (fun pre W2 => ∃ pre' : List (Eb es), pre'.map (·.1.1) = pre ∧ J pre' W2 ∧ Boxed W2 W.heap.size 70 (.func (.yield l) #[] #[]) ∧ (∀ e ∈ es, BIn W2 e.bv e.xs) ∧ W.heap.size + 1 ≤ W2.heap.size)
  ?hI ?h0 (fun x => (x.1.k.map (Value.int .u8)).toArray)
  (fun x B => #[.func (.yield l) #[] #[], .pointer (some ⟨B0, 0, none⟩), .pointer (some ⟨W.heap.size, 0, none⟩), .pointer (some ⟨B, 0, none⟩), x.1.bv, .func (.func 55) #[] #[.pointer (some ⟨B1, 0, none⟩), .pointer (some ⟨B2, 0, none⟩)], .agg (x.1.k.map (Value.int .u8)).toArray, x.1.bv, undef, undef, undef, undef, undef, undef])
  ?assign ?body ?done
 case hI =>
  rintro pre A C rw ⟨pre', hp, hj, hb, hbl, hs⟩ hg hr
  exact ⟨pre', hp, HJ.out _ _ _ _ hj hg (fun r e => ⟨by have := (hr r e).1; omega, (hr r e).2⟩), box_stay hb hg hr, fun e he => bin_stay (hbl e he) hg hr, Nat.le_trans hs hg.size⟩
 case h0 => exact ⟨[], rfl, HJK.out _ _ _ H0.out HK0.out, HB0.out, fun e he => (HBL.out e he).kept2 HK0.out (fun _ _ _ f => f), by omega⟩
 case assign =>
  intro l' x W2 K hK
  have hkl := HLEN.out x
  have hds := size28_of x.1.k hkl
  have honed := oneCells .u8 x.1.k
  have HOD : Hid (32 = (x.1.k.map (Value.int .u8)).toArray.size) := by show 32 = _; simp [hkl]
  gi_wp2_with (refine inList_store_row rfl 29 _ _ rfl W2.heap.size (x.1.k.map (Value.int .u8)).toArray rfl rfl 29 _ (alloc_new _ _ rfl) hds HOD.out honed ?_; rw [setRow_new _ _ _ _ rfl])
  exact hK
 case body =>
  rintro l' pre x B W2 ⟨pre', hp, hj, hb, hbl, hs⟩ hcx hBge hBk hlt
  have HCX : Hid (∃ d, ds[pre'.length]? = some d ∧ d.1 = x.1.k) := by
   show ∃ d, _
   rw [show pre'.length = pre.length by rw [← hp, List.length_map]]
   exact hcx
  clear hcx
  have hds := size28_of x.1.k (HLEN.out x)
  have HCL : Hid (∀ A, Kept (fun _ => False) W2 A → Calls Tryz.prog 30 #[x.1.bv] A fun e w' => ∃ v', e = .returned v' ∧ BIn w' v' x.1.xs ∧ (∀ g, v'.ownBlock = some g → A.heap.size ≤ g ∧ g < w'.heap.size) ∧ Kept (fun _ => False) A w') := fun A hA => clone_any _ _ A ((hbl x.1 x.2).kept2 hA (fun _ _ _ f => f)) (by have := (HBD.out x.1 x.2).2.1; omega)
  have HCB := hid_of hb.cell
  have HBX := hid_of hb
  have HBK := hid_of hBk
  have HJ2 := hid_of hj
  have HBL2 := hid_of hbl
  have HLT : Hid (pre'.length < ds.length) := by
   show _ < _
   rw [← hp, List.length_map] at hlt
   exact hlt
  have HP := hid_of hp
  have HK3 : Hid (Kept (fun _ => False) W2 W2.drew) := (Kept.refl _ W2).drew
  have HB3 : Hid (W2.drew.heap[B]? = some (.cells (x.1.k.map (Value.int .u8)).toArray 29 (0, 0))) := hBk
  have hc3 : W2.drew.cell? ⟨W.heap.size, 0, none⟩ = some (.func (.yield l) #[] #[]) := hb.cell
  have fin : Hid (∀ (w4 W5 : World) (p : Eb es), p.1.1 = x → Kept (fun _ => False) W2 w4 → J (pre' ++ [p]) W5 → Kept Y w4 W5 → Kept Y W2 W5 ∧ ∃ pre', pre'.map (·.1.1) = pre ++ [x] ∧ J pre' W5 ∧ Boxed W5 W.heap.size 70 (.func (.yield l) #[] #[]) ∧ (∀ e ∈ es, BIn W5 e.bv e.xs) ∧ W.heap.size + 1 ≤ W5.heap.size) := fun w4 W5 p hpx hk4 hJ5 hkq => by
   have hs4 := hk4.size
   refine ⟨(hk4.mono (fun _ _ f => f.elim)).trans hkq, pre' ++ [p], by rw [List.map_append, HP.out, ← hpx]; rfl, hJ5, ?_, fun e he => ?_, by have := hkq.size; omega⟩
   ·exact (hkq.block _ (by omega) (fun e => by have := hYW _ e; omega)).trans ((hk4.block _ (by omega) (fun f => f)).trans HBX.out)
   ·exact ((HBL2.out e he).kept2 hk4 (fun _ _ _ f => f)).kept2 hkq (fun h0 g hg => hYZ g ((HBD.out e he).2.2 h0 g hg))
  clear hp hj hb hbl hBk hlt
  gi_wp2
  refine wpIn_region_any (by kernel_rfl) ?_
  change wpAnyIn _ _ _ _ _ _ _ _ _ W2.drew
  generalize W2.drew = W3 at *
  refine wpAnyIn_ready (rs := [0, 1, 2]) (by kernel_rfl) (by simp) ?_
  refine AllReadyIn.cons rfl (fun K hK => ?_) ?_
  ·go_simp
   refine hK _ _ ?_
   clear hK K
   try simp only [Act.put, tdy]
   refine wpAnyIn_ready (rs := [1, 2]) (by kernel_rfl) (by simp) ?_
   refine AllReadyIn.cons rfl (fun K hK => ?_) ?_
   ·refine stIn_load28 rfl _ rfl B rfl 29 (x.1.k.map (Value.int .u8)).toArray (0, 0) HB3.out hds ?_
    refine hK _ _ ?_
    clear hK K
    try simp only [Act.put, tdy]
    refine wpAnyIn_ready (rs := [2]) (by kernel_rfl) (by simp) ?_
    refine AllReadyIn.cons rfl (fun K hK => ?_) .nil
    go_simp
    refine hK _ _ ?_
    clear hK K
    try simp only [Act.put, tdy]
    refine wpAnyIn_ready (rs := [3]) (by kernel_rfl) (by simp) ?_
    refine AllReadyIn.cons rfl (fun K hK => ?_) .nil
    go_simp
    refine ⟨trivial, (fun h => by cases h), (CallsIn.inRound l' (callsIn_wide.2 (HCL.out _ HK3.out))).mono ?_⟩
    rintro e w4 ⟨v', rfl, hbv, _, hk4⟩
    obtain ⟨ao', c', hvv, _, _⟩ := id hbv
    subst hvv
    have hK24 := HK3.out.trans hk4
    have HK24 := hid_of hK24
    have HB4 := hid_of ((hK24.block _ (heap_lt HBK.out) (fun f => f)).trans HBK.out)
    have hc4 : w4.cell? ⟨W.heap.size, 0, none⟩ = some (.func (.yield l) #[] #[]) := hK24.cell HCB.out (fun f => f)
    have HBV := hid_of hbv; clear hbv hk4 hK24
    refine hK _ _ ?_
    clear hK K
    try simp only [Act.put, tdy]
    refine wpAnyIn_ready (rs := [4]) (by kernel_rfl) (by simp) ?_
    refine AllReadyIn.cons rfl (fun K hK => ?_) .nil
    obtain ⟨fn, tmps, assign, body, hy, hRn⟩ := HY.out pre' ⟨(x, .slice ao' x.1.xs.length c'), ⟨ao', c', rfl⟩⟩ w4 (HJK.out _ _ _ HJ2.out HK24.out) ⟨HBV.out, HCX.out⟩ HLT.out
    unfold dv at hy
    go_simp
    refine ⟨(fun h => by cases h), (round_any_n hRn).mono ?_⟩
    rintro e5 W5 ⟨rfl, hJ5, hk5⟩
    have HJ5 := hid_of hJ5
    have HKQ := hid_of hk5
    clear hJ5 hk5 hRn hy
    refine hK _ _ ?_
    clear hK K
    try simp only [Act.put, tdy]
    refine wpAnyIn_ready (rs := [5]) (by kernel_rfl) (by simp) ?_
    refine AllReadyIn.cons rfl (fun K hK => ?_) .nil
    go_simp
    refine hK _ _ ?_
    clear hK K
    try simp only [Act.put, tdy]
    refine wpAnyIn_done (by kernel_rfl) ?_ _
    gi_wp2
    exact fin.out _ _ _ rfl HK24.out HJ5.out HKQ.out
   refine AllReadyIn.cons rfl (fun K hK => ?_) .nil
   go_simp
   refine hK _ _ ?_
   clear hK K
   try simp only [Act.put, tdy]
   refine wpAnyIn_ready (rs := [1, 3]) (by kernel_rfl) (by simp) ?_
   refine AllReadyIn.cons rfl (fun K hK => ?_) ?_
   ·refine stIn_load28 rfl _ rfl B rfl 29 (x.1.k.map (Value.int .u8)).toArray (0, 0) HB3.out hds ?_
    refine hK _ _ ?_
    clear hK K
    try simp only [Act.put, tdy]
    refine wpAnyIn_ready (rs := [3]) (by kernel_rfl) (by simp) ?_
    refine AllReadyIn.cons rfl (fun K hK => ?_) .nil
    go_simp
    refine ⟨trivial, (fun h => by cases h), (CallsIn.inRound l' (callsIn_wide.2 (HCL.out _ HK3.out))).mono ?_⟩
    rintro e w4 ⟨v', rfl, hbv, _, hk4⟩
    obtain ⟨ao', c', hvv, _, _⟩ := id hbv
    subst hvv
    have hK24 := HK3.out.trans hk4
    have HK24 := hid_of hK24
    have HB4 := hid_of ((hK24.block _ (heap_lt HBK.out) (fun f => f)).trans HBK.out)
    have hc4 : w4.cell? ⟨W.heap.size, 0, none⟩ = some (.func (.yield l) #[] #[]) := hK24.cell HCB.out (fun f => f)
    have HBV := hid_of hbv; clear hbv hk4 hK24
    refine hK _ _ ?_
    clear hK K
    try simp only [Act.put, tdy]
    refine wpAnyIn_ready (rs := [4]) (by kernel_rfl) (by simp) ?_
    refine AllReadyIn.cons rfl (fun K hK => ?_) .nil
    obtain ⟨fn, tmps, assign, body, hy, hRn⟩ := HY.out pre' ⟨(x, .slice ao' x.1.xs.length c'), ⟨ao', c', rfl⟩⟩ w4 (HJK.out _ _ _ HJ2.out HK24.out) ⟨HBV.out, HCX.out⟩ HLT.out
    unfold dv at hy
    go_simp
    refine ⟨(fun h => by cases h), (round_any_n hRn).mono ?_⟩
    rintro e5 W5 ⟨rfl, hJ5, hk5⟩
    have HJ5 := hid_of hJ5
    have HKQ := hid_of hk5
    clear hJ5 hk5 hRn hy
    refine hK _ _ ?_
    clear hK K
    try simp only [Act.put, tdy]
    refine wpAnyIn_ready (rs := [5]) (by kernel_rfl) (by simp) ?_
    refine AllReadyIn.cons rfl (fun K hK => ?_) .nil
    go_simp
    refine hK _ _ ?_
    clear hK K
    try simp only [Act.put, tdy]
    refine wpAnyIn_done (by kernel_rfl) ?_ _
    gi_wp2
    exact fin.out _ _ _ rfl HK24.out HJ5.out HKQ.out
   refine AllReadyIn.cons rfl (fun K hK => ?_) .nil
   go_simp
   refine ⟨trivial, (fun h => by cases h), (CallsIn.inRound l' (callsIn_wide.2 (HCL.out _ HK3.out))).mono ?_⟩
   rintro e w4 ⟨v', rfl, hbv, _, hk4⟩
   obtain ⟨ao', c', hvv, _, _⟩ := id hbv
   subst hvv
   have hK24 := HK3.out.trans hk4
   have HK24 := hid_of hK24
   have HB4 := hid_of ((hK24.block _ (heap_lt HBK.out) (fun f => f)).trans HBK.out)
   have hc4 : w4.cell? ⟨W.heap.size, 0, none⟩ = some (.func (.yield l) #[] #[]) := hK24.cell HCB.out (fun f => f)
   have HBV := hid_of hbv; clear hbv hk4 hK24
   refine hK _ _ ?_
   clear hK K
   try simp only [Act.put, tdy]
   refine wpAnyIn_ready (rs := [1]) (by kernel_rfl) (by simp) ?_
   refine AllReadyIn.cons rfl (fun K hK => ?_) .nil
   refine stIn_load28 rfl _ rfl B rfl 29 (x.1.k.map (Value.int .u8)).toArray (0, 0) HB4.out hds ?_
   refine hK _ _ ?_
   clear hK K
   try simp only [Act.put, tdy]
   refine wpAnyIn_ready (rs := [4]) (by kernel_rfl) (by simp) ?_
   refine AllReadyIn.cons rfl (fun K hK => ?_) .nil
   obtain ⟨fn, tmps, assign, body, hy, hRn⟩ := HY.out pre' ⟨(x, .slice ao' x.1.xs.length c'), ⟨ao', c', rfl⟩⟩ w4 (HJK.out _ _ _ HJ2.out HK24.out) ⟨HBV.out, HCX.out⟩ HLT.out
   unfold dv at hy
   go_simp
   refine ⟨(fun h => by cases h), (round_any_n hRn).mono ?_⟩
   rintro e5 W5 ⟨rfl, hJ5, hk5⟩
   have HJ5 := hid_of hJ5
   have HKQ := hid_of hk5
   clear hJ5 hk5 hRn hy
   refine hK _ _ ?_
   clear hK K
   try simp only [Act.put, tdy]
   refine wpAnyIn_ready (rs := [5]) (by kernel_rfl) (by simp) ?_
   refine AllReadyIn.cons rfl (fun K hK => ?_) .nil
   go_simp
   refine hK _ _ ?_
   clear hK K
   try simp only [Act.put, tdy]
   refine wpAnyIn_done (by kernel_rfl) ?_ _
   gi_wp2
   exact fin.out _ _ _ rfl HK24.out HJ5.out HKQ.out
  refine AllReadyIn.cons rfl (fun K hK => ?_) ?_
  ·refine stIn_load28 rfl _ rfl B rfl 29 (x.1.k.map (Value.int .u8)).toArray (0, 0) HB3.out hds ?_
   refine hK _ _ ?_
   clear hK K
   try simp only [Act.put, tdy]
   refine wpAnyIn_ready (rs := [0, 2]) (by kernel_rfl) (by simp) ?_
   refine AllReadyIn.cons rfl (fun K hK => ?_) ?_
   ·go_simp
    refine hK _ _ ?_
    clear hK K
    try simp only [Act.put, tdy]
    refine wpAnyIn_ready (rs := [2]) (by kernel_rfl) (by simp) ?_
    refine AllReadyIn.cons rfl (fun K hK => ?_) .nil
    go_simp
    refine hK _ _ ?_
    clear hK K
    try simp only [Act.put, tdy]
    refine wpAnyIn_ready (rs := [3]) (by kernel_rfl) (by simp) ?_
    refine AllReadyIn.cons rfl (fun K hK => ?_) .nil
    go_simp
    refine ⟨trivial, (fun h => by cases h), (CallsIn.inRound l' (callsIn_wide.2 (HCL.out _ HK3.out))).mono ?_⟩
    rintro e w4 ⟨v', rfl, hbv, _, hk4⟩
    obtain ⟨ao', c', hvv, _, _⟩ := id hbv
    subst hvv
    have hK24 := HK3.out.trans hk4
    have HK24 := hid_of hK24
    have HB4 := hid_of ((hK24.block _ (heap_lt HBK.out) (fun f => f)).trans HBK.out)
    have hc4 : w4.cell? ⟨W.heap.size, 0, none⟩ = some (.func (.yield l) #[] #[]) := hK24.cell HCB.out (fun f => f)
    have HBV := hid_of hbv; clear hbv hk4 hK24
    refine hK _ _ ?_
    clear hK K
    try simp only [Act.put, tdy]
    refine wpAnyIn_ready (rs := [4]) (by kernel_rfl) (by simp) ?_
    refine AllReadyIn.cons rfl (fun K hK => ?_) .nil
    obtain ⟨fn, tmps, assign, body, hy, hRn⟩ := HY.out pre' ⟨(x, .slice ao' x.1.xs.length c'), ⟨ao', c', rfl⟩⟩ w4 (HJK.out _ _ _ HJ2.out HK24.out) ⟨HBV.out, HCX.out⟩ HLT.out
    unfold dv at hy
    go_simp
    refine ⟨(fun h => by cases h), (round_any_n hRn).mono ?_⟩
    rintro e5 W5 ⟨rfl, hJ5, hk5⟩
    have HJ5 := hid_of hJ5
    have HKQ := hid_of hk5
    clear hJ5 hk5 hRn hy
    refine hK _ _ ?_
    clear hK K
    try simp only [Act.put, tdy]
    refine wpAnyIn_ready (rs := [5]) (by kernel_rfl) (by simp) ?_
    refine AllReadyIn.cons rfl (fun K hK => ?_) .nil
    go_simp
    refine hK _ _ ?_
    clear hK K
    try simp only [Act.put, tdy]
    refine wpAnyIn_done (by kernel_rfl) ?_ _
    gi_wp2
    exact fin.out _ _ _ rfl HK24.out HJ5.out HKQ.out
   refine AllReadyIn.cons rfl (fun K hK => ?_) .nil
   go_simp
   refine hK _ _ ?_
   clear hK K
   try simp only [Act.put, tdy]
   refine wpAnyIn_ready (rs := [0, 3]) (by kernel_rfl) (by simp) ?_
   refine AllReadyIn.cons rfl (fun K hK => ?_) ?_
   ·go_simp
    refine hK _ _ ?_
    clear hK K
    try simp only [Act.put, tdy]
    refine wpAnyIn_ready (rs := [3]) (by kernel_rfl) (by simp) ?_
    refine AllReadyIn.cons rfl (fun K hK => ?_) .nil
    go_simp
    refine ⟨trivial, (fun h => by cases h), (CallsIn.inRound l' (callsIn_wide.2 (HCL.out _ HK3.out))).mono ?_⟩
    rintro e w4 ⟨v', rfl, hbv, _, hk4⟩
    obtain ⟨ao', c', hvv, _, _⟩ := id hbv
    subst hvv
    have hK24 := HK3.out.trans hk4
    have HK24 := hid_of hK24
    have HB4 := hid_of ((hK24.block _ (heap_lt HBK.out) (fun f => f)).trans HBK.out)
    have hc4 : w4.cell? ⟨W.heap.size, 0, none⟩ = some (.func (.yield l) #[] #[]) := hK24.cell HCB.out (fun f => f)
    have HBV := hid_of hbv; clear hbv hk4 hK24
    refine hK _ _ ?_
    clear hK K
    try simp only [Act.put, tdy]
    refine wpAnyIn_ready (rs := [4]) (by kernel_rfl) (by simp) ?_
    refine AllReadyIn.cons rfl (fun K hK => ?_) .nil
    obtain ⟨fn, tmps, assign, body, hy, hRn⟩ := HY.out pre' ⟨(x, .slice ao' x.1.xs.length c'), ⟨ao', c', rfl⟩⟩ w4 (HJK.out _ _ _ HJ2.out HK24.out) ⟨HBV.out, HCX.out⟩ HLT.out
    unfold dv at hy
    go_simp
    refine ⟨(fun h => by cases h), (round_any_n hRn).mono ?_⟩
    rintro e5 W5 ⟨rfl, hJ5, hk5⟩
    have HJ5 := hid_of hJ5
    have HKQ := hid_of hk5
    clear hJ5 hk5 hRn hy
    refine hK _ _ ?_
    clear hK K
    try simp only [Act.put, tdy]
    refine wpAnyIn_ready (rs := [5]) (by kernel_rfl) (by simp) ?_
    refine AllReadyIn.cons rfl (fun K hK => ?_) .nil
    go_simp
    refine hK _ _ ?_
    clear hK K
    try simp only [Act.put, tdy]
    refine wpAnyIn_done (by kernel_rfl) ?_ _
    gi_wp2
    exact fin.out _ _ _ rfl HK24.out HJ5.out HKQ.out
   refine AllReadyIn.cons rfl (fun K hK => ?_) .nil
   go_simp
   refine ⟨trivial, (fun h => by cases h), (CallsIn.inRound l' (callsIn_wide.2 (HCL.out _ HK3.out))).mono ?_⟩
   rintro e w4 ⟨v', rfl, hbv, _, hk4⟩
   obtain ⟨ao', c', hvv, _, _⟩ := id hbv
   subst hvv
   have hK24 := HK3.out.trans hk4
   have HK24 := hid_of hK24
   have HB4 := hid_of ((hK24.block _ (heap_lt HBK.out) (fun f => f)).trans HBK.out)
   have hc4 : w4.cell? ⟨W.heap.size, 0, none⟩ = some (.func (.yield l) #[] #[]) := hK24.cell HCB.out (fun f => f)
   have HBV := hid_of hbv; clear hbv hk4 hK24
   refine hK _ _ ?_
   clear hK K
   try simp only [Act.put, tdy]
   refine wpAnyIn_ready (rs := [0]) (by kernel_rfl) (by simp) ?_
   refine AllReadyIn.cons rfl (fun K hK => ?_) .nil
   go_simp
   refine hK _ _ ?_
   clear hK K
   try simp only [Act.put, tdy]
   refine wpAnyIn_ready (rs := [4]) (by kernel_rfl) (by simp) ?_
   refine AllReadyIn.cons rfl (fun K hK => ?_) .nil
   obtain ⟨fn, tmps, assign, body, hy, hRn⟩ := HY.out pre' ⟨(x, .slice ao' x.1.xs.length c'), ⟨ao', c', rfl⟩⟩ w4 (HJK.out _ _ _ HJ2.out HK24.out) ⟨HBV.out, HCX.out⟩ HLT.out
   unfold dv at hy
   go_simp
   refine ⟨(fun h => by cases h), (round_any_n hRn).mono ?_⟩
   rintro e5 W5 ⟨rfl, hJ5, hk5⟩
   have HJ5 := hid_of hJ5
   have HKQ := hid_of hk5
   clear hJ5 hk5 hRn hy
   refine hK _ _ ?_
   clear hK K
   try simp only [Act.put, tdy]
   refine wpAnyIn_ready (rs := [5]) (by kernel_rfl) (by simp) ?_
   refine AllReadyIn.cons rfl (fun K hK => ?_) .nil
   go_simp
   refine hK _ _ ?_
   clear hK K
   try simp only [Act.put, tdy]
   refine wpAnyIn_done (by kernel_rfl) ?_ _
   gi_wp2
   exact fin.out _ _ _ rfl HK24.out HJ5.out HKQ.out
  refine AllReadyIn.cons rfl (fun K hK => ?_) .nil
  go_simp
  refine hK _ _ ?_
  clear hK K
  try simp only [Act.put, tdy]
  refine wpAnyIn_ready (rs := [0, 1, 3]) (by kernel_rfl) (by simp) ?_
  refine AllReadyIn.cons rfl (fun K hK => ?_) ?_
  ·go_simp
   refine hK _ _ ?_
   clear hK K
   try simp only [Act.put, tdy]
   refine wpAnyIn_ready (rs := [1, 3]) (by kernel_rfl) (by simp) ?_
   refine AllReadyIn.cons rfl (fun K hK => ?_) ?_
   ·refine stIn_load28 rfl _ rfl B rfl 29 (x.1.k.map (Value.int .u8)).toArray (0, 0) HB3.out hds ?_
    refine hK _ _ ?_
    clear hK K
    try simp only [Act.put, tdy]
    refine wpAnyIn_ready (rs := [3]) (by kernel_rfl) (by simp) ?_
    refine AllReadyIn.cons rfl (fun K hK => ?_) .nil
    go_simp
    refine ⟨trivial, (fun h => by cases h), (CallsIn.inRound l' (callsIn_wide.2 (HCL.out _ HK3.out))).mono ?_⟩
    rintro e w4 ⟨v', rfl, hbv, _, hk4⟩
    obtain ⟨ao', c', hvv, _, _⟩ := id hbv
    subst hvv
    have hK24 := HK3.out.trans hk4
    have HK24 := hid_of hK24
    have HB4 := hid_of ((hK24.block _ (heap_lt HBK.out) (fun f => f)).trans HBK.out)
    have hc4 : w4.cell? ⟨W.heap.size, 0, none⟩ = some (.func (.yield l) #[] #[]) := hK24.cell HCB.out (fun f => f)
    have HBV := hid_of hbv; clear hbv hk4 hK24
    refine hK _ _ ?_
    clear hK K
    try simp only [Act.put, tdy]
    refine wpAnyIn_ready (rs := [4]) (by kernel_rfl) (by simp) ?_
    refine AllReadyIn.cons rfl (fun K hK => ?_) .nil
    obtain ⟨fn, tmps, assign, body, hy, hRn⟩ := HY.out pre' ⟨(x, .slice ao' x.1.xs.length c'), ⟨ao', c', rfl⟩⟩ w4 (HJK.out _ _ _ HJ2.out HK24.out) ⟨HBV.out, HCX.out⟩ HLT.out
    unfold dv at hy
    go_simp
    refine ⟨(fun h => by cases h), (round_any_n hRn).mono ?_⟩
    rintro e5 W5 ⟨rfl, hJ5, hk5⟩
    have HJ5 := hid_of hJ5
    have HKQ := hid_of hk5
    clear hJ5 hk5 hRn hy
    refine hK _ _ ?_
    clear hK K
    try simp only [Act.put, tdy]
    refine wpAnyIn_ready (rs := [5]) (by kernel_rfl) (by simp) ?_
    refine AllReadyIn.cons rfl (fun K hK => ?_) .nil
    go_simp
    refine hK _ _ ?_
    clear hK K
    try simp only [Act.put, tdy]
    refine wpAnyIn_done (by kernel_rfl) ?_ _
    gi_wp2
    exact fin.out _ _ _ rfl HK24.out HJ5.out HKQ.out
   refine AllReadyIn.cons rfl (fun K hK => ?_) .nil
   go_simp
   refine ⟨trivial, (fun h => by cases h), (CallsIn.inRound l' (callsIn_wide.2 (HCL.out _ HK3.out))).mono ?_⟩
   rintro e w4 ⟨v', rfl, hbv, _, hk4⟩
   obtain ⟨ao', c', hvv, _, _⟩ := id hbv
   subst hvv
   have hK24 := HK3.out.trans hk4
   have HK24 := hid_of hK24
   have HB4 := hid_of ((hK24.block _ (heap_lt HBK.out) (fun f => f)).trans HBK.out)
   have hc4 : w4.cell? ⟨W.heap.size, 0, none⟩ = some (.func (.yield l) #[] #[]) := hK24.cell HCB.out (fun f => f)
   have HBV := hid_of hbv; clear hbv hk4 hK24
   refine hK _ _ ?_
   clear hK K
   try simp only [Act.put, tdy]
   refine wpAnyIn_ready (rs := [1]) (by kernel_rfl) (by simp) ?_
   refine AllReadyIn.cons rfl (fun K hK => ?_) .nil
   refine stIn_load28 rfl _ rfl B rfl 29 (x.1.k.map (Value.int .u8)).toArray (0, 0) HB4.out hds ?_
   refine hK _ _ ?_
   clear hK K
   try simp only [Act.put, tdy]
   refine wpAnyIn_ready (rs := [4]) (by kernel_rfl) (by simp) ?_
   refine AllReadyIn.cons rfl (fun K hK => ?_) .nil
   obtain ⟨fn, tmps, assign, body, hy, hRn⟩ := HY.out pre' ⟨(x, .slice ao' x.1.xs.length c'), ⟨ao', c', rfl⟩⟩ w4 (HJK.out _ _ _ HJ2.out HK24.out) ⟨HBV.out, HCX.out⟩ HLT.out
   unfold dv at hy
   go_simp
   refine ⟨(fun h => by cases h), (round_any_n hRn).mono ?_⟩
   rintro e5 W5 ⟨rfl, hJ5, hk5⟩
   have HJ5 := hid_of hJ5
   have HKQ := hid_of hk5
   clear hJ5 hk5 hRn hy
   refine hK _ _ ?_
   clear hK K
   try simp only [Act.put, tdy]
   refine wpAnyIn_ready (rs := [5]) (by kernel_rfl) (by simp) ?_
   refine AllReadyIn.cons rfl (fun K hK => ?_) .nil
   go_simp
   refine hK _ _ ?_
   clear hK K
   try simp only [Act.put, tdy]
   refine wpAnyIn_done (by kernel_rfl) ?_ _
   gi_wp2
   exact fin.out _ _ _ rfl HK24.out HJ5.out HKQ.out
  refine AllReadyIn.cons rfl (fun K hK => ?_) ?_
  ·refine stIn_load28 rfl _ rfl B rfl 29 (x.1.k.map (Value.int .u8)).toArray (0, 0) HB3.out hds ?_
   refine hK _ _ ?_
   clear hK K
   try simp only [Act.put, tdy]
   refine wpAnyIn_ready (rs := [0, 3]) (by kernel_rfl) (by simp) ?_
   refine AllReadyIn.cons rfl (fun K hK => ?_) ?_
   ·go_simp
    refine hK _ _ ?_
    clear hK K
    try simp only [Act.put, tdy]
    refine wpAnyIn_ready (rs := [3]) (by kernel_rfl) (by simp) ?_
    refine AllReadyIn.cons rfl (fun K hK => ?_) .nil
    go_simp
    refine ⟨trivial, (fun h => by cases h), (CallsIn.inRound l' (callsIn_wide.2 (HCL.out _ HK3.out))).mono ?_⟩
    rintro e w4 ⟨v', rfl, hbv, _, hk4⟩
    obtain ⟨ao', c', hvv, _, _⟩ := id hbv
    subst hvv
    have hK24 := HK3.out.trans hk4
    have HK24 := hid_of hK24
    have HB4 := hid_of ((hK24.block _ (heap_lt HBK.out) (fun f => f)).trans HBK.out)
    have hc4 : w4.cell? ⟨W.heap.size, 0, none⟩ = some (.func (.yield l) #[] #[]) := hK24.cell HCB.out (fun f => f)
    have HBV := hid_of hbv; clear hbv hk4 hK24
    refine hK _ _ ?_
    clear hK K
    try simp only [Act.put, tdy]
    refine wpAnyIn_ready (rs := [4]) (by kernel_rfl) (by simp) ?_
    refine AllReadyIn.cons rfl (fun K hK => ?_) .nil
    obtain ⟨fn, tmps, assign, body, hy, hRn⟩ := HY.out pre' ⟨(x, .slice ao' x.1.xs.length c'), ⟨ao', c', rfl⟩⟩ w4 (HJK.out _ _ _ HJ2.out HK24.out) ⟨HBV.out, HCX.out⟩ HLT.out
    unfold dv at hy
    go_simp
    refine ⟨(fun h => by cases h), (round_any_n hRn).mono ?_⟩
    rintro e5 W5 ⟨rfl, hJ5, hk5⟩
    have HJ5 := hid_of hJ5
    have HKQ := hid_of hk5
    clear hJ5 hk5 hRn hy
    refine hK _ _ ?_
    clear hK K
    try simp only [Act.put, tdy]
    refine wpAnyIn_ready (rs := [5]) (by kernel_rfl) (by simp) ?_
    refine AllReadyIn.cons rfl (fun K hK => ?_) .nil
    go_simp
    refine hK _ _ ?_
    clear hK K
    try simp only [Act.put, tdy]
    refine wpAnyIn_done (by kernel_rfl) ?_ _
    gi_wp2
    exact fin.out _ _ _ rfl HK24.out HJ5.out HKQ.out
   refine AllReadyIn.cons rfl (fun K hK => ?_) .nil
   go_simp
   refine ⟨trivial, (fun h => by cases h), (CallsIn.inRound l' (callsIn_wide.2 (HCL.out _ HK3.out))).mono ?_⟩
   rintro e w4 ⟨v', rfl, hbv, _, hk4⟩
   obtain ⟨ao', c', hvv, _, _⟩ := id hbv
   subst hvv
   have hK24 := HK3.out.trans hk4
   have HK24 := hid_of hK24
   have HB4 := hid_of ((hK24.block _ (heap_lt HBK.out) (fun f => f)).trans HBK.out)
   have hc4 : w4.cell? ⟨W.heap.size, 0, none⟩ = some (.func (.yield l) #[] #[]) := hK24.cell HCB.out (fun f => f)
   have HBV := hid_of hbv; clear hbv hk4 hK24
   refine hK _ _ ?_
   clear hK K
   try simp only [Act.put, tdy]
   refine wpAnyIn_ready (rs := [0]) (by kernel_rfl) (by simp) ?_
   refine AllReadyIn.cons rfl (fun K hK => ?_) .nil
   go_simp
   refine hK _ _ ?_
   clear hK K
   try simp only [Act.put, tdy]
   refine wpAnyIn_ready (rs := [4]) (by kernel_rfl) (by simp) ?_
   refine AllReadyIn.cons rfl (fun K hK => ?_) .nil
   obtain ⟨fn, tmps, assign, body, hy, hRn⟩ := HY.out pre' ⟨(x, .slice ao' x.1.xs.length c'), ⟨ao', c', rfl⟩⟩ w4 (HJK.out _ _ _ HJ2.out HK24.out) ⟨HBV.out, HCX.out⟩ HLT.out
   unfold dv at hy
   go_simp
   refine ⟨(fun h => by cases h), (round_any_n hRn).mono ?_⟩
   rintro e5 W5 ⟨rfl, hJ5, hk5⟩
   have HJ5 := hid_of hJ5
   have HKQ := hid_of hk5
   clear hJ5 hk5 hRn hy
   refine hK _ _ ?_
   clear hK K
   try simp only [Act.put, tdy]
   refine wpAnyIn_ready (rs := [5]) (by kernel_rfl) (by simp) ?_
   refine AllReadyIn.cons rfl (fun K hK => ?_) .nil
   go_simp
   refine hK _ _ ?_
   clear hK K
   try simp only [Act.put, tdy]
   refine wpAnyIn_done (by kernel_rfl) ?_ _
   gi_wp2
   exact fin.out _ _ _ rfl HK24.out HJ5.out HKQ.out
  refine AllReadyIn.cons rfl (fun K hK => ?_) .nil
  go_simp
  refine ⟨trivial, (fun h => by cases h), (CallsIn.inRound l' (callsIn_wide.2 (HCL.out _ HK3.out))).mono ?_⟩
  rintro e w4 ⟨v', rfl, hbv, _, hk4⟩
  obtain ⟨ao', c', hvv, _, _⟩ := id hbv
  subst hvv
  have hK24 := HK3.out.trans hk4
  have HK24 := hid_of hK24
  have HB4 := hid_of ((hK24.block _ (heap_lt HBK.out) (fun f => f)).trans HBK.out)
  have hc4 : w4.cell? ⟨W.heap.size, 0, none⟩ = some (.func (.yield l) #[] #[]) := hK24.cell HCB.out (fun f => f)
  have HBV := hid_of hbv; clear hbv hk4 hK24
  refine hK _ _ ?_
  clear hK K
  try simp only [Act.put, tdy]
  refine wpAnyIn_ready (rs := [0, 1]) (by kernel_rfl) (by simp) ?_
  refine AllReadyIn.cons rfl (fun K hK => ?_) ?_
  ·go_simp
   refine hK _ _ ?_
   clear hK K
   try simp only [Act.put, tdy]
   refine wpAnyIn_ready (rs := [1]) (by kernel_rfl) (by simp) ?_
   refine AllReadyIn.cons rfl (fun K hK => ?_) .nil
   refine stIn_load28 rfl _ rfl B rfl 29 (x.1.k.map (Value.int .u8)).toArray (0, 0) HB4.out hds ?_
   refine hK _ _ ?_
   clear hK K
   try simp only [Act.put, tdy]
   refine wpAnyIn_ready (rs := [4]) (by kernel_rfl) (by simp) ?_
   refine AllReadyIn.cons rfl (fun K hK => ?_) .nil
   obtain ⟨fn, tmps, assign, body, hy, hRn⟩ := HY.out pre' ⟨(x, .slice ao' x.1.xs.length c'), ⟨ao', c', rfl⟩⟩ w4 (HJK.out _ _ _ HJ2.out HK24.out) ⟨HBV.out, HCX.out⟩ HLT.out
   unfold dv at hy
   go_simp
   refine ⟨(fun h => by cases h), (round_any_n hRn).mono ?_⟩
   rintro e5 W5 ⟨rfl, hJ5, hk5⟩
   have HJ5 := hid_of hJ5
   have HKQ := hid_of hk5
   clear hJ5 hk5 hRn hy
   refine hK _ _ ?_
   clear hK K
   try simp only [Act.put, tdy]
   refine wpAnyIn_ready (rs := [5]) (by kernel_rfl) (by simp) ?_
   refine AllReadyIn.cons rfl (fun K hK => ?_) .nil
   go_simp
   refine hK _ _ ?_
   clear hK K
   try simp only [Act.put, tdy]
   refine wpAnyIn_done (by kernel_rfl) ?_ _
   gi_wp2
   exact fin.out _ _ _ rfl HK24.out HJ5.out HKQ.out
  refine AllReadyIn.cons rfl (fun K hK => ?_) .nil
  refine stIn_load28 rfl _ rfl B rfl 29 (x.1.k.map (Value.int .u8)).toArray (0, 0) HB4.out hds ?_
  refine hK _ _ ?_
  clear hK K
  try simp only [Act.put, tdy]
  refine wpAnyIn_ready (rs := [0]) (by kernel_rfl) (by simp) ?_
  refine AllReadyIn.cons rfl (fun K hK => ?_) .nil
  go_simp
  refine hK _ _ ?_
  clear hK K
  try simp only [Act.put, tdy]
  refine wpAnyIn_ready (rs := [4]) (by kernel_rfl) (by simp) ?_
  refine AllReadyIn.cons rfl (fun K hK => ?_) .nil
  obtain ⟨fn, tmps, assign, body, hy, hRn⟩ := HY.out pre' ⟨(x, .slice ao' x.1.xs.length c'), ⟨ao', c', rfl⟩⟩ w4 (HJK.out _ _ _ HJ2.out HK24.out) ⟨HBV.out, HCX.out⟩ HLT.out
  unfold dv at hy
  go_simp
  refine ⟨(fun h => by cases h), (round_any_n hRn).mono ?_⟩
  rintro e5 W5 ⟨rfl, hJ5, hk5⟩
  have HJ5 := hid_of hJ5
  have HKQ := hid_of hk5
  clear hJ5 hk5 hRn hy
  refine hK _ _ ?_
  clear hK K
  try simp only [Act.put, tdy]
  refine wpAnyIn_ready (rs := [5]) (by kernel_rfl) (by simp) ?_
  refine AllReadyIn.cons rfl (fun K hK => ?_) .nil
  go_simp
  refine hK _ _ ?_
  clear hK K
  try simp only [Act.put, tdy]
  refine wpAnyIn_done (by kernel_rfl) ?_ _
  gi_wp2
  exact fin.out _ _ _ rfl HK24.out HJ5.out HKQ.out
 case done =>
  rintro D ys W2 hD hS ⟨pre', hp, hj, hb, hbl, hs⟩ hK
  have HS := hid_of hS
  have HK := hid_of hK
  have HP := hid_of hp
  have HJ2 := hid_of hj
  clear hS hK hj hp hb hbl
  gi_wp2
  refine ⟨by simp, .inl ⟨_, _, rfl, run_takeDeferred HK.out, ?_⟩⟩
  refine ⟨_, results_none rfl _ _ _, ⟨_, rfl⟩, pre', ?_, HJ.out _ W2 _ (some D) HJ2.out (grownBy_putObj' W2 D _) (fun r e => by cases e; exact ⟨by omega, _, HK.out, rfl⟩)⟩
  rw [← HS.out, ← HP.out, List.map_map]
  rfl
end Go.Proofs.YtjdbmjkidljhpaaGreatDoor

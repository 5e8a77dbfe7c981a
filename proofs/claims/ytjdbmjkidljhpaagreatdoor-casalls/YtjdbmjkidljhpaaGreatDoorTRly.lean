/-
 The document's lay, by contract.
-/
import Derived.Test.YtjdbmjkidljhpaaGreatDoorTMj
import Derived.Great.BuildSlice
namespace Go.Proofs.YtjdbmjkidljhpaaGreatDoor
open Go.RowKit
set_option linter.unusedVariables false
set_option linter.unusedSimpArgs false
set_option maxRecDepth 100000
theorem kept_rowx (w : World) (g : Nat) (cs : Array Value) : Kept (fun k => k = g) w (w.setRow g cs) :=
 ⟨rfl, rfl, rfl, by simp [World.setRow], fun k hk hn => by simp only [World.setRow]; rw [Array.getElem?_modify, if_neg (fun e => hn e.symm)]⟩
theorem own_boxx {w : World} {b e s n t B : Nat} {v : Value} {xs : List Value} {c : Array Value} (h : w.ownsRow b e s v n xs) (hB : w.heap[B]? = some (.cells c t (0, 0))) (hne : t ≠ e) : v.ownBlock ≠ some B := by
 intro hq
 rcases h.2 with ⟨rfl, _⟩ | ⟨g, cap, cur, rfl, _, hg, _⟩
 ·cases hq
 ·have e1 : g = B := Option.some.inj hq
  subst e1
  rw [hB] at hg
  cases hg
  exact hne rfl
section
variable {ops : Array Oper} {o : Oper} {a : Act} {w : World} {K : Act → World → Prop} {Q : Exit → Act → World → Prop} {E : Prop}
theorem stp_allocb (hgd : o.guard = none) (ho : o.op = .alloc 50) (h : K (a.put o.dst (.pointer (some ⟨w.heap.size, 0, none⟩))) (w.alloc (.cells (List.replicate 32 (Value.int .u8 0) ++ [Value.slice none 0 0, Value.int .i64 0]).toArray 50))) : if Region.wanted o (yielded ops a.tmps) = true then Oper.wp Tryz.prog o a w K Q else E := by
 have hw : Region.wanted o (yielded ops a.tmps) = true := by simp [Region.wanted, hgd]
 obtain ⟨i0, hi, hz0, hz1, hz2⟩ := info_parts Try.info50r
 rw [if_pos hw]
 unfold Oper.wp execOp
 simp only [ho, Sem.run_bind, Instr.alloc, typeInfo, zeroValue, hi, hz0, newVar, newRow, run_newObj_alloc, Sem.run_pure, Result.andThen_ok]
 exact h
end
theorem fold_get : ∀ (cs : List Value) (k : Nat) (init : Array Value), k + cs.length ≤ init.size → ∀ i, ((cs.zipIdx k).foldl (fun a x => a.setIfInBounds x.2 x.1) init)[i]? = if k ≤ i ∧ i < k + cs.length then cs[i - k]? else init[i]?
 | [], k, init, _, i => by
  rw [if_neg (by simp; try omega)]
  rfl
 | c :: cs, k, init, h, i => by
  rw [List.zipIdx_cons, List.foldl_cons, fold_get cs (k + 1) _ (by simp at h ⊢; omega) i]
  simp only [List.length_cons]
  rw [Array.getElem?_setIfInBounds]
  by_cases e : k = i
  ·subst e
   rw [if_neg (by omega), if_pos rfl, if_pos (by simp at h; omega), if_pos (by omega), Nat.sub_self]
   rfl
  ·rw [if_neg e]
   by_cases e2 : k + 1 ≤ i ∧ i < k + 1 + cs.length
   ·rw [if_pos e2, if_pos (by omega), show i - k = (i - (k + 1)) + 1 by omega]
    rfl
   ·rw [if_neg e2, if_neg (by omega)]
theorem fill_bl (cs : Array Value) (hl : cs.size = 34) : ∀ init : Array Value, init.size = 34 → Instr.fill (fun i => some (i * 34, 34)) init [(0, .agg cs)] = some cs := fun init hi => by
 obtain ⟨l, rfl⟩ : ∃ l : List Value, cs = l.toArray := ⟨cs.toList, by simp⟩
 have hl' : l.length = 34 := by simpa using hl
 have hf : (l.zipIdx.foldl (fun a x => a.setIfInBounds x.2 x.1) init) = l.toArray := by
  apply Array.ext_getElem?
  intro i
  rw [fold_get l 0 init (by omega) i]
  by_cases h : 0 ≤ i ∧ i < 0 + l.length
  ·rw [if_pos h]
   simp
  ·rw [if_neg h, Array.getElem?_eq_none (by omega), Array.getElem?_eq_none (by simp; omega)]
 simp [Instr.fill, Value.cells, hl', hi, hf]
theorem wpList_build50 {ops : Array Oper} {rest : List Oper} {o : Oper} {a : Act} {w : World} {Q : Exit → Act → World → Prop} (hg : o.guard = none) (x : Operand) (ho : o.op = .buildSlice 40 1 #[(0, x)]) (cs : Array Value) (hx : a.eval x = .agg cs) (hf : ∀ init : Array Value, init.size = 34 → Instr.fill (fun i => some (i * 34, 34)) init [(0, .agg cs)] = some cs)
  (h : wpList Tryz.prog ops Q rest (a.put o.dst (.slice (some ⟨w.heap.size, 0, none⟩) 1 1)) (w.alloc (.cells cs 50))) : wpList Tryz.prog ops Q (o :: rest) a w := by
 obtain ⟨i0, hi, hz0, hz1, hz2⟩ := info_parts Try.info50r
 refine wpList_buildSlice hg 40 50 1 _ ho cs i0 _ Tryz.underlying40 hi hz0 (by rw [hz1]; decide) (by rw [hz1]; decide) ?_ h
 rw [hz1]
 have e : (#[(0, x)].map fun (i, y) => (i, a.eval y)).toList = [(0, .agg cs)] := by rw [← hx]; simp
 rw [e]
 exact hf _ (by simp)
theorem own_lo {w : World} {B e s : Nat} {v : Value} {m : Nat} {l : List Value} (h : w.ownsRow B e s v m l) : w.ownsRow 0 e s v m l := by
 refine ⟨h.1, ?_⟩
 rcases h.2 with h | ⟨g, cap, cur, e, hb, r⟩
 ·exact .inl h
 ·exact .inr ⟨g, cap, cur, e, Nat.zero_le _, r⟩
/-- What lay leaves. -/
def LayR (w w' : World) (r : Nat) (lv : Value) (ρ : Rg) (d xs : List Int) : Prop :=
 ∃ lv' bv', Rst w' r lv' { ρ with la := ρ.la + 1, l := layB ρ.l ⟨d, bv', xs, ρ.la + 1⟩ } ∧ Kept (OwnR r lv) w w' ∧ (lv' = lv ∨ ∀ q, lv'.ownBlock = some q → w.heap.size ≤ q) ∧ ∀ g, bv'.ownBlock = some g → w.heap.size ≤ g
theorem Rst.no8 {w : World} {r : Nat} {lv : Value} {ρ : Rg} (h : Rst w r lv ρ) {o : Nat} {x : Int} (hc : w.cell? ⟨r, o, none⟩ = some (.int .u8 x)) : False := by
 obtain ⟨ao, c, rfl⟩ := row_form h.row
 rw [h.cell o] at hc
 obtain ⟨hlt, hv⟩ := Array.getElem?_eq_some_iff.1 hc
 have hm := Array.getElem_mem hlt
 rw [hv] at hm
 simp [Rg.cells] at hm
theorem Rst.notr {w : World} {r : Nat} {lv : Value} {ρ : Rg} (h : Rst w r lv ρ) {v : Value} {xs : List Int} (hx : BIn w v xs) (h0 : xs ≠ []) : ∀ g, v.ownBlock = some g → g ≠ r := fun g hg e => by
 subst e
 obtain ⟨ao, c, rfl, _, h1⟩ := hx
 rcases h1 with h1 | ⟨b, o, rfl, h1⟩
 ·exact h0 h1
 ·cases hg
  exact h.no8 (h1 0 (List.length_pos_iff.2 h0))
/-- A blob in the place of another one. -/
theorem Rst.over {W : World} {r g c : Nat} {ρ : Rg} {lo : Nat} (h : Rst W r (.slice (some ⟨g, 0, none⟩) ρ.l.length c) ρ) (X : Bl) (hX : BlOk W X) (hXl : ∀ q, X.bv.ownBlock = some q → lo ≤ q) (hrl : r < lo) (hgl : g < lo) (hf : (findB ρ.l X.d).isSome = true) :
  Rst (W.setCells g (atB ρ.l X.d * 34) X.cells) r (.slice (some ⟨g, 0, none⟩) ρ.l.length c) { ρ with l := layB ρ.l X } := by
 have hk := kept_setCells g X.cells (atB ρ.l X.d * 34) W
 have hgr : r ≠ g := fun e => h.apart (by rw [e]; rfl)
 have hset := layB_set ρ.l X hf
 obtain ⟨b, hb⟩ := Option.isSome_iff_exists.1 hf
 have hlt := (List.getElem?_eq_some_iff.1 (findB_some hb).1).1
 have hlen : (layB ρ.l X).length = ρ.l.length := by rw [hset, List.length_set]
 have hrow := own_setCells X.cells (atB ρ.l X.d * 34) _ _ h.row
 rw [bls_set h.k32 hlt hX.len, ← hset] at hrow
 have hmem : ∀ y ∈ layB ρ.l X, y ∈ ρ.l ∨ y = X := fun y hy => layB_mem _ _ _ hy
 refine ⟨(hk.block r h.lt hgr).trans h.blk, ?_, fun y hy => ?_, fun y hy h0 q hq => ?_, by show (layB ρ.l X).length ≤ _; rw [hlen]; exact h.few⟩
 ·show World.ownsRow _ 0 50 34 _ (layB ρ.l X).length _
  rw [hlen]
  exact hrow
 ·rcases hmem y hy with hy | rfl
  ·exact (h.ok y hy).kept hk (fun h0 q hq e => (h.off y hy h0 q hq).2 (by rw [e]; rfl))
  ·exact hX.kept hk (fun h0 q hq e => by have := hXl q hq; omega)
 ·rcases hmem y hy with hy | rfl
  ·exact h.off y hy h0 q hq
  ·have := hXl q hq
   exact ⟨by omega, fun e => by have e' : g = q := Option.some.inj e; omega⟩
/-- A blob more, in a row that is new. -/
theorem Rst.more {W W' : World} {r : Nat} {lv lv' : Value} {ρ : Rg} {lo : Nat} (h : Rst W r lv ρ) (X : Bl) (hX : BlOk W X) (hXl : ∀ q, X.bv.ownBlock = some q → q < lo) (hXr : ∀ q, X.bv.ownBlock = some q → q ≠ r) (hlo : lo ≤ W.heap.size) (hold : ∀ b ∈ ρ.l, b.xs ≠ [] → ∀ q, b.bv.ownBlock = some q → q < lo) (hf : findB ρ.l X.d = none) (hfew : ρ.l.length < 1000000)
  (hk : Kept (fun q => lo ≤ q) W W') (hrl : r < lo) (hrow : W'.ownsRow lo 50 34 lv' (layB ρ.l X).length (bls (layB ρ.l X))) :
  Rst (W'.setCell ⟨r, 3, none⟩ lv') r lv' { ρ with l := layB ρ.l X } := by
 have hk2 := kept_set W' ⟨r, 3, none⟩ lv'
 have hblk : W'.heap[r]? = some (.cells (ρ.cells lv) 42 (0, 0)) := (hk.block r h.lt (by omega)).trans h.blk
 have hlen : (layB ρ.l X).length = ρ.l.length + 1 := by rw [lenB_lay, hf]
 have hmem : ∀ y ∈ layB ρ.l X, y ∈ ρ.l ∨ y = X := fun y hy => layB_mem _ _ _ hy
 have hok : ∀ y ∈ layB ρ.l X, BlOk W' y ∧ (y.xs ≠ [] → ∀ q, y.bv.ownBlock = some q → q < lo ∧ q ≠ r) := fun y hy => by
  rcases hmem y hy with hy | rfl
  ·refine ⟨(h.ok y hy).kept hk (fun h0 q hq => by have := hold y hy h0 q hq; omega), fun h0 q hq => ⟨hold y hy h0 q hq, (h.off y hy h0 q hq).1⟩⟩
  ·exact ⟨hX.kept hk (fun h0 q hq => by have := hXl q hq; omega), fun h0 q hq => ⟨hXl q hq, hXr q hq⟩⟩
 refine ⟨?_, ?_, fun y hy => ?_, fun y hy h0 q hq => ?_, by show (layB ρ.l X).length ≤ _; omega⟩
 ·rw [set_block _ _ _ _ _ _ hblk]
  rfl
 ·refine hk2.ownsRow (own_lo hrow) (fun q hq e => ?_)
  have e' : q = r := e
  have := (hrow.lt q hq).1
  omega
 ·exact (hok y hy).1.kept hk2 (fun h0 q hq e => ((hok y hy).2 h0 q hq).2 e)
 ·obtain ⟨h1, h2⟩ := (hok y hy).2 h0 q hq
  exact ⟨h2, fun e => by have := (hrow.lt q e).1; omega⟩
set_option maxHeartbeats 16000000 in
theorem lay_ref {w : World} {r : Nat} {lv : Value} {ρ : Rg} (h : Rst w r lv ρ) (d : List Int) (hd : d.length = 32) (hdr : ∀ x ∈ d, 0 ≤ x ∧ x < 256) (bv : Value) (xs : List Int) (hx : BIn w bv xs) (hxr : ∀ x ∈ xs, 0 ≤ x ∧ x < 256) (hn : xs.length ≤ 1048576) (hl0 : 0 ≤ ρ.la) (hl1 : ρ.la ≤ 1099511627776) (hfew : ρ.l.length < 1000000) :
  Calls Tryz.prog 59 #[.pointer (some ⟨r, 0, none⟩), dv d, bv] w fun e w' => (∃ v, e = .returned v) ∧ LayR w w' r lv ρ d xs := by
 obtain ⟨bo, bc, rfl⟩ := hx.form
 obtain ⟨ds, hds⟩ : ∃ ds, ds = (d.map (Value.int .u8)).toArray := ⟨_, rfl⟩
 obtain ⟨la1, hla⟩ : ∃ x, x = ρ.la + 1 := ⟨_, rfl⟩
 obtain ⟨nx, hnx⟩ : ∃ x, x = xs.length := ⟨_, rfl⟩
 have hdi := size29_arr d hd
 rw [← hds] at hdi
 have HDS := hid_of hdi
 have HDE := hid_of hds
 have HD := hid_of hd
 have HDR := hid_of hdr
 have HXR := hid_of hxr
 have HXN : Hid (xs.length ≤ 140737488355328) := by show xs.length ≤ _; omega
 have HXS := hid_of hn
 have HNX := hid_of hnx
 have HLA := hid_of hla
 have HFW := hid_of hfew
 have HKA : Hid (Kept (fun _ => False) w (w.alloc (.cells ds 29))) := (Kept.refl _ w).alloc _
 have HBA : Hid ((w.alloc (.cells ds 29)).heap[w.heap.size]? = some (.cells ds 29 (0, 0))) := alloc_new _ _ rfl
 have HRS0 : Hid (Rst (w.alloc (.cells ds 29)) r lv ρ) := h.same HKA.out
 have HRW := hid_of h
 have HBV0 := hid_of hx
 have HST0 : Hid (Rst ((w.alloc (.cells ds 29)).setCell ⟨r, 2, none⟩ (.int .i64 la1)) r lv { ρ with la := ρ.la + 1 } ∧ Kept (fun q => q = r) (w.alloc (.cells ds 29)) ((w.alloc (.cells ds 29)).setCell ⟨r, 2, none⟩ (.int .i64 la1))) := HRS0.out.set (ρ' := { ρ with la := ρ.la + 1 }) 2 _ (by rw [hla]; rfl) rfl
 have c20 : (w.alloc (.cells ds 29)).cell? ⟨r, 2, none⟩ = some (.int .i64 ρ.la) := HRS0.out.cell 2
 have f20 := HRS0.out.fz 2
 have hw1 : IntKind.i64.wrap (ρ.la + 1) = la1 := by rw [IntKind.wrap_i64, hla]; omega
 have hrl := h.lt
 have HRL := hid_of hrl
 rw [← hnx]
 have hdv : dv d = .agg ds := by unfold dv; rw [hds]
 rw [hdv]
 have HDV := hid_of hdv
 clear h hd hdr hx hxr hn hl0 hl1 hfew hds hla hnx hdi hdv
 go_enter Tryz.func59, Tryz.ntmps59
 go_upto_region 1 with fail
 generalize hwA : w.alloc (.cells ds 29) = wA at *
 go_upto_region 2 with fail
 have HB1 : Hid ((wA.setCell ⟨r, 2, none⟩ (.int .i64 la1)).heap[w.heap.size]? = some (.cells ds 29 (0, 0))) := (HST0.out.2.block _ (heap_lt HBA.out) (fun e => by omega)).trans HBA.out
 have HRS1 := hid_of HST0.out.1
 have HKB : Hid (Kept (fun q => q = r) w (wA.setCell ⟨r, 2, none⟩ (.int .i64 la1))) := (HKA.out.mono (fun _ _ f => f.elim)).trans HST0.out.2
 clear HST0 c20 f20 hwA HRS0 HBA HKA hw1
 generalize wA.setCell ⟨r, 2, none⟩ (.int .i64 la1) = wB at *
 have HWB : Hid (w.heap.size ≤ wB.heap.size) := HKB.out.size
 have c2 : wB.cell? ⟨r, 2, none⟩ = some (.int .i64 la1) := by rw [HLA.out]; exact HRS1.out.cell 2
 have HBX : Hid (∀ W, Kept (fun _ => False) wB W → BIn W (.slice bo nx bc) xs) := fun W hW => by
  have h1 := HBV0.out.kept2 HKB.out (fun h0 g hg e => HRW.out.notr HBV0.out h0 g hg e)
  rw [HNX.out]
  exact h1.kept2 hW (fun _ _ _ f => f)
 go_cut [6] (fun v6 wx => ∃ (gx : Nat) (vo : Option Addr) (vc : Nat), v6 = .pointer (some ⟨gx, 0, none⟩) ∧ Hid (wx.heap[gx]? = some (.cells (blA d vo nx vc la1) 50 (0, 0))) ∧ Hid (wx.ownsRow w.heap.size 5 1 (.slice vo nx vc) nx (xs.map (Value.int .u8))) ∧ Hid (Kept (fun _ => False) wB wx) ∧ w.heap.size ≤ gx)
 case first =>
  refine wp_region_held_drew (S := fun w' => w'.heap[w.heap.size]? = some (.cells ds 29 (0, 0)) ∧ w'.cell? ⟨r, 2, none⟩ = some (.int .i64 la1)) (by kernel_rfl) ⟨HB1.out, c2⟩ (fun hHeld => ?_)
  refine tkg 0 (.agg ds) rfl (yields_row (by rfl) 29 _ rfl w.heap.size rfl _ _ _ _ (fun w hSw => hSw.1) Tryz.underlying29 rfl HDS.out) ?_
  try simp only [Act.put, tdy]
  refine tkp (v := ?_) 2 rfl ?_ ?_; rotate_left 1
  ·intro w hSw; go_simp; try with_reducible rfl
  try simp only [Act.put, tdy]
  iterate 3
   refine tkn (v := ?_) 4 rfl ?_ ?_; rotate_left 1
   ·intro w hSw; go_simp; try with_reducible rfl
   try simp only [Act.put, tdy]
  refine tkp (v := ?_) 7 rfl ?_ ?_; rotate_left 1
  ·intro w hSw; obtain ⟨s1, s2⟩ := hSw; go_simp; try with_reducible rfl
  try simp only [Act.put, tdy]
  have K0 : Hid (Kept (fun _ => False) wB wB) := Kept.refl _ _
  refine wpAnyH_ready (rs := [1, 9]) (by kernel_rfl) (by simp) ?_
  refine AllReadyH.cons rfl (fun K hK => ?_) ?_
  ·go_simp
   have K1 : Hid (Kept (fun _ => False) wB (wB.alloc (.cells #[] 5))) := K0.out.alloc _
   have E1 : Hid ((wB.alloc (.cells #[] 5)).heap[wB.heap.size]? = some (.cells #[] 5 (0, 0))) := alloc_new _ _ rfl
   have hE1 : wB.heap.size ≤ wB.heap.size := K0.out.size
   refine hK.out _ _ ⟨(K1.out.block _ (heap_lt HB1.out) (fun f => f)).trans HB1.out, K1.out.cell c2 (fun f => f)⟩ (fun hHeld => ?_)
   clear hK K
   try simp only [Act.put, tdy]
   generalize wB.alloc (.cells #[] 5) = W1 at *
   refine wpAnyH_ready (rs := [3, 9]) (by kernel_rfl) (by simp) ?_
   refine AllReadyH.cons rfl (fun K hK => ?_) ?_
   ·obtain ⟨vo, vc, W2, hr2, ho2, hk2⟩ := app_bytes2 (W := W1.drew) (B := w.heap.size) E1.out (Nat.le_trans HWB.out hE1) (HBX.out _ K1.out.drew) HXN.out
    rw [← HNX.out] at hr2 ho2
    refine stp_app4 rfl _ _ 27 27 rfl _ _ rfl rfl _ W2 hr2 ?_
    have K2 : Hid (Kept (fun _ => False) wB W2) := (K1.out.drew).step hk2 (fun i hi e => by have h9 := hE1; omega)
    have V2 := hid_of ho2
    refine hK.out _ _ ⟨(K2.out.block _ (heap_lt HB1.out) (fun f => f)).trans HB1.out, K2.out.cell c2 (fun f => f)⟩ (fun hHeld => ?_)
    clear hK K hr2 ho2 hk2
    try simp only [Act.put, tdy]
    have HBI := hid_of (blA_info d HD.out vo nx vc la1)
    have HBZ : Hid (((List.replicate 32 (Value.int .u8 0) ++ [Value.slice none 0 0, Value.int .i64 0]).toArray).size = (blA d vo nx vc la1).size) := by unfold Hid; rw [blA_size d HD.out]; rfl
    refine tkg 8 (.agg (blA d vo nx vc la1)) rfl (yields_blA (by rfl) _ _ _ rfl d HD.out ds HDE.out vo nx vc la1 rfl rfl rfl) ?_
    try simp only [Act.put, tdy]
    refine wpAnyH_ready (rs := [9]) (by kernel_rfl) (by simp) ?_
    refine AllReadyH.cons rfl (fun K hK => ?_) ?_
    ·refine stp_allocb rfl rfl ?_
     have K3 : Hid (Kept (fun _ => False) wB ((W2).alloc (.cells (List.replicate 32 (Value.int .u8 0) ++ [Value.slice none 0 0, Value.int .i64 0]).toArray 50))) := (K2.out).alloc _
     have F3 : Hid (((W2).alloc (.cells (List.replicate 32 (Value.int .u8 0) ++ [Value.slice none 0 0, Value.int .i64 0]).toArray 50)).heap[W2.heap.size]? = some (.cells (List.replicate 32 (Value.int .u8 0) ++ [Value.slice none 0 0, Value.int .i64 0]).toArray 50 (0, 0))) := alloc_new _ _ rfl
     have hF3 : wB.heap.size ≤ W2.heap.size := K2.out.size
     have V3 : Hid (((W2).alloc (.cells (List.replicate 32 (Value.int .u8 0) ++ [Value.slice none 0 0, Value.int .i64 0]).toArray 50)).ownsRow w.heap.size 5 1 (.slice vo nx vc) nx (xs.map (Value.int .u8))) := ((Kept.refl (fun _ => False) W2).alloc _).ownsRow V2.out (fun _ _ f => f)
     refine hK.out _ _ ⟨(K3.out.block _ (heap_lt HB1.out) (fun f => f)).trans HB1.out, K3.out.cell c2 (fun f => f)⟩ (fun hHeld => ?_)
     clear hK K
     try simp only [Act.put, tdy]
     generalize (W2).alloc (.cells (List.replicate 32 (Value.int .u8 0) ++ [Value.slice none 0 0, Value.int .i64 0]).toArray 50) = W3 at *
     refine wpAnyH_ready (rs := [10]) (by kernel_rfl) (by simp) ?_
     refine AllReadyH.cons rfl (fun K hK => ?_) .nil
     refine stp_store_row rfl 50 _ _ rfl W2.heap.size (blA d vo nx vc la1) rfl rfl 50 _ F3.out HBI.out HBZ.out (blA_one _ _ _ _ _) ?_
     have K4 : Hid (Kept (fun _ => False) wB (W3.setRow W2.heap.size (blA d vo nx vc la1))) := K3.out.setRow (.inl hF3) _
     have G4 : Hid ((W3.setRow W2.heap.size (blA d vo nx vc la1)).heap[W2.heap.size]? = some (.cells (blA d vo nx vc la1) 50 (0, 0))) := setRow_heap _ _ _ _ 50 (0, 0) F3.out
     have V4 : Hid ((W3.setRow W2.heap.size (blA d vo nx vc la1)).ownsRow w.heap.size 5 1 (.slice vo nx vc) nx (xs.map (Value.int .u8))) := (kept_rowx W3 W2.heap.size _).ownsRow V3.out (fun g hg e => own_boxx V3.out F3.out (by decide) (by rw [← e]; exact hg))
     have hL4 : w.heap.size ≤ W2.heap.size := Nat.le_trans HWB.out hF3
     refine hK.out _ _ ⟨(K4.out.block _ (heap_lt HB1.out) (fun f => f)).trans HB1.out, K4.out.cell c2 (fun f => f)⟩ (fun hHeld => ?_)
     clear hK K
     try simp only [Act.put, tdy]
     refine wpAnyH_done (by kernel_rfl) ?_ _
     go_wp2_with fail
     go_meet
     exact ⟨_, vo, vc, rfl, G4, V4, K4, hL4⟩
    exact .nil
   refine AllReadyH.cons rfl (fun K hK => ?_) ?_
   ·refine stp_allocb rfl rfl ?_
    have K5 : Hid (Kept (fun _ => False) wB ((W1.drew).alloc (.cells (List.replicate 32 (Value.int .u8 0) ++ [Value.slice none 0 0, Value.int .i64 0]).toArray 50))) := (K1.out.drew).alloc _
    have F5 : Hid (((W1.drew).alloc (.cells (List.replicate 32 (Value.int .u8 0) ++ [Value.slice none 0 0, Value.int .i64 0]).toArray 50)).heap[W1.heap.size]? = some (.cells (List.replicate 32 (Value.int .u8 0) ++ [Value.slice none 0 0, Value.int .i64 0]).toArray 50 (0, 0))) := alloc_new _ _ rfl
    have hF5 : wB.heap.size ≤ W1.heap.size := K1.out.size
    have E5 : Hid (((W1.drew).alloc (.cells (List.replicate 32 (Value.int .u8 0) ++ [Value.slice none 0 0, Value.int .i64 0]).toArray 50)).heap[wB.heap.size]? = some (.cells #[] 5 (0, 0))) := alloc_old E1.out
    have hN5 : W1.heap.size ≠ wB.heap.size := fun e => by have := heap_lt E1.out; omega
    refine hK.out _ _ ⟨(K5.out.block _ (heap_lt HB1.out) (fun f => f)).trans HB1.out, K5.out.cell c2 (fun f => f)⟩ (fun hHeld => ?_)
    clear hK K
    try simp only [Act.put, tdy]
    generalize (W1.drew).alloc (.cells (List.replicate 32 (Value.int .u8 0) ++ [Value.slice none 0 0, Value.int .i64 0]).toArray 50) = W5 at *
    refine wpAnyH_ready (rs := [3]) (by kernel_rfl) (by simp) ?_
    refine AllReadyH.cons rfl (fun K hK => ?_) ?_
    ·obtain ⟨vo, vc, W6, hr6, ho6, hk6⟩ := app_bytes2 (W := W5) (B := w.heap.size) E5.out (Nat.le_trans HWB.out hE1) (HBX.out _ K5.out) HXN.out
     rw [← HNX.out] at hr6 ho6
     refine stp_app4 rfl _ _ 27 27 rfl _ _ rfl rfl _ W6 hr6 ?_
     have K6 : Hid (Kept (fun _ => False) wB W6) := (K5.out).step hk6 (fun i hi e => by have h9 := hE1; omega)
     have V6 := hid_of ho6
     have F6 : Hid (W6.heap[W1.heap.size]? = some (.cells (List.replicate 32 (Value.int .u8 0) ++ [Value.slice none 0 0, Value.int .i64 0]).toArray 50 (0, 0))) := (hk6.block _ (heap_lt F5.out) (fun e => hN5 e)).trans F5.out
     refine hK.out _ _ ⟨(K6.out.block _ (heap_lt HB1.out) (fun f => f)).trans HB1.out, K6.out.cell c2 (fun f => f)⟩ (fun hHeld => ?_)
     clear hK K hr6 ho6 hk6
     try simp only [Act.put, tdy]
     have HBI := hid_of (blA_info d HD.out vo nx vc la1)
     have HBZ : Hid (((List.replicate 32 (Value.int .u8 0) ++ [Value.slice none 0 0, Value.int .i64 0]).toArray).size = (blA d vo nx vc la1).size) := by unfold Hid; rw [blA_size d HD.out]; rfl
     refine tkg 8 (.agg (blA d vo nx vc la1)) rfl (yields_blA (by rfl) _ _ _ rfl d HD.out ds HDE.out vo nx vc la1 rfl rfl rfl) ?_
     try simp only [Act.put, tdy]
     refine wpAnyH_ready (rs := [10]) (by kernel_rfl) (by simp) ?_
     refine AllReadyH.cons rfl (fun K hK => ?_) .nil
     refine stp_store_row rfl 50 _ _ rfl W1.heap.size (blA d vo nx vc la1) rfl rfl 50 _ F6.out HBI.out HBZ.out (blA_one _ _ _ _ _) ?_
     have K7 : Hid (Kept (fun _ => False) wB (W6.setRow W1.heap.size (blA d vo nx vc la1))) := K6.out.setRow (.inl hF5) _
     have G7 : Hid ((W6.setRow W1.heap.size (blA d vo nx vc la1)).heap[W1.heap.size]? = some (.cells (blA d vo nx vc la1) 50 (0, 0))) := setRow_heap _ _ _ _ 50 (0, 0) F6.out
     have V7 : Hid ((W6.setRow W1.heap.size (blA d vo nx vc la1)).ownsRow w.heap.size 5 1 (.slice vo nx vc) nx (xs.map (Value.int .u8))) := (kept_rowx W6 W1.heap.size _).ownsRow V6.out (fun g hg e => own_boxx V6.out F6.out (by decide) (by rw [← e]; exact hg))
     have hL7 : w.heap.size ≤ W1.heap.size := Nat.le_trans HWB.out hF5
     refine hK.out _ _ ⟨(K7.out.block _ (heap_lt HB1.out) (fun f => f)).trans HB1.out, K7.out.cell c2 (fun f => f)⟩ (fun hHeld => ?_)
     clear hK K
     try simp only [Act.put, tdy]
     refine wpAnyH_done (by kernel_rfl) ?_ _
     go_wp2_with fail
     go_meet
     exact ⟨_, vo, vc, rfl, G7, V7, K7, hL7⟩
    exact .nil
   exact .nil
  refine AllReadyH.cons rfl (fun K hK => ?_) ?_
  ·refine stp_allocb rfl rfl ?_
   have K8 : Hid (Kept (fun _ => False) wB ((wB.drew).alloc (.cells (List.replicate 32 (Value.int .u8 0) ++ [Value.slice none 0 0, Value.int .i64 0]).toArray 50))) := (K0.out.drew).alloc _
   have F8 : Hid (((wB.drew).alloc (.cells (List.replicate 32 (Value.int .u8 0) ++ [Value.slice none 0 0, Value.int .i64 0]).toArray 50)).heap[wB.heap.size]? = some (.cells (List.replicate 32 (Value.int .u8 0) ++ [Value.slice none 0 0, Value.int .i64 0]).toArray 50 (0, 0))) := alloc_new _ _ rfl
   have hF8 : wB.heap.size ≤ wB.heap.size := K0.out.size
   refine hK.out _ _ ⟨(K8.out.block _ (heap_lt HB1.out) (fun f => f)).trans HB1.out, K8.out.cell c2 (fun f => f)⟩ (fun hHeld => ?_)
   clear hK K
   try simp only [Act.put, tdy]
   generalize (wB.drew).alloc (.cells (List.replicate 32 (Value.int .u8 0) ++ [Value.slice none 0 0, Value.int .i64 0]).toArray 50) = W8 at *
   refine wpAnyH_ready (rs := [1]) (by kernel_rfl) (by simp) ?_
   refine AllReadyH.cons rfl (fun K hK => ?_) ?_
   ·go_simp
    have K9 : Hid (Kept (fun _ => False) wB (W8.alloc (.cells #[] 5))) := K8.out.alloc _
    have E9 : Hid ((W8.alloc (.cells #[] 5)).heap[W8.heap.size]? = some (.cells #[] 5 (0, 0))) := alloc_new _ _ rfl
    have hE9 : wB.heap.size ≤ W8.heap.size := K8.out.size
    have F9 : Hid ((W8.alloc (.cells #[] 5)).heap[wB.heap.size]? = some (.cells (List.replicate 32 (Value.int .u8 0) ++ [Value.slice none 0 0, Value.int .i64 0]).toArray 50 (0, 0))) := alloc_old F8.out
    have hN9 : wB.heap.size ≠ W8.heap.size := fun e => by have := heap_lt F8.out; omega
    refine hK.out _ _ ⟨(K9.out.block _ (heap_lt HB1.out) (fun f => f)).trans HB1.out, K9.out.cell c2 (fun f => f)⟩ (fun hHeld => ?_)
    clear hK K
    try simp only [Act.put, tdy]
    generalize W8.alloc (.cells #[] 5) = W9 at *
    refine wpAnyH_ready (rs := [3]) (by kernel_rfl) (by simp) ?_
    refine AllReadyH.cons rfl (fun K hK => ?_) ?_
    ·obtain ⟨vo, vc, W10, hr10, ho10, hk10⟩ := app_bytes2 (W := W9) (B := w.heap.size) E9.out (Nat.le_trans HWB.out hE9) (HBX.out _ K9.out) HXN.out
     rw [← HNX.out] at hr10 ho10
     refine stp_app4 rfl _ _ 27 27 rfl _ _ rfl rfl _ W10 hr10 ?_
     have K10 : Hid (Kept (fun _ => False) wB W10) := (K9.out).step hk10 (fun i hi e => by have h9 := hE9; omega)
     have V10 := hid_of ho10
     have F10 : Hid (W10.heap[wB.heap.size]? = some (.cells (List.replicate 32 (Value.int .u8 0) ++ [Value.slice none 0 0, Value.int .i64 0]).toArray 50 (0, 0))) := (hk10.block _ (heap_lt F9.out) (fun e => hN9 e)).trans F9.out
     refine hK.out _ _ ⟨(K10.out.block _ (heap_lt HB1.out) (fun f => f)).trans HB1.out, K10.out.cell c2 (fun f => f)⟩ (fun hHeld => ?_)
     clear hK K hr10 ho10 hk10
     try simp only [Act.put, tdy]
     have HBI := hid_of (blA_info d HD.out vo nx vc la1)
     have HBZ : Hid (((List.replicate 32 (Value.int .u8 0) ++ [Value.slice none 0 0, Value.int .i64 0]).toArray).size = (blA d vo nx vc la1).size) := by unfold Hid; rw [blA_size d HD.out]; rfl
     refine tkg 8 (.agg (blA d vo nx vc la1)) rfl (yields_blA (by rfl) _ _ _ rfl d HD.out ds HDE.out vo nx vc la1 rfl rfl rfl) ?_
     try simp only [Act.put, tdy]
     refine wpAnyH_ready (rs := [10]) (by kernel_rfl) (by simp) ?_
     refine AllReadyH.cons rfl (fun K hK => ?_) .nil
     refine stp_store_row rfl 50 _ _ rfl wB.heap.size (blA d vo nx vc la1) rfl rfl 50 _ F10.out HBI.out HBZ.out (blA_one _ _ _ _ _) ?_
     have K11 : Hid (Kept (fun _ => False) wB (W10.setRow wB.heap.size (blA d vo nx vc la1))) := K10.out.setRow (.inl hF8) _
     have G11 : Hid ((W10.setRow wB.heap.size (blA d vo nx vc la1)).heap[wB.heap.size]? = some (.cells (blA d vo nx vc la1) 50 (0, 0))) := setRow_heap _ _ _ _ 50 (0, 0) F10.out
     have V11 : Hid ((W10.setRow wB.heap.size (blA d vo nx vc la1)).ownsRow w.heap.size 5 1 (.slice vo nx vc) nx (xs.map (Value.int .u8))) := (kept_rowx W10 wB.heap.size _).ownsRow V10.out (fun g hg e => own_boxx V10.out F10.out (by decide) (by rw [← e]; exact hg))
     have hL11 : w.heap.size ≤ wB.heap.size := Nat.le_trans HWB.out hF8
     refine hK.out _ _ ⟨(K11.out.block _ (heap_lt HB1.out) (fun f => f)).trans HB1.out, K11.out.cell c2 (fun f => f)⟩ (fun hHeld => ?_)
     clear hK K
     try simp only [Act.put, tdy]
     refine wpAnyH_done (by kernel_rfl) ?_ _
     go_wp2_with fail
     go_meet
     exact ⟨_, vo, vc, rfl, G11, V11, K11, hL11⟩
    exact .nil
   exact .nil
  exact .nil
 case rest =>
  obtain ⟨gx, vo, vc, rfl, HGX, HOV, HKC, hgl⟩ := hcut
  have HRS2 := hid_of (HRS1.out.same HKC.out)
  have hpl := place_any HRS2.out d HD.out
  rw [HDV.out] at hpl
  have HPL := hid_of hpl
  have HBC : Hid (wc.heap[w.heap.size]? = some (.cells ds 29 (0, 0))) := (HKC.out.block _ (heap_lt HB1.out) (fun f => f)).trans HB1.out
  have HBI := hid_of (blA_info d HD.out vo nx vc la1)
  have HKW : Hid (Kept (OwnR r lv) w wc) := (HKB.out.mono (fun _ _ e => .inl e)).trans (HKC.out.mono (fun _ _ f => f.elim))
  have hsz : w.heap.size ≤ wc.heap.size := HKW.out.size
  clear hpl HKC HB1 HBX
  go_wp2_with (refine wpList_load_row rfl 29 _ rfl w.heap.size rfl 29 ds (0, 0) _ HBC.out Tryz.underlying29 rfl HDS.out ?_)
  refine HPL.out.mono ?_
  rintro e w5 ⟨rfl, hk5⟩
  have HK5 := hid_of (HKW.out.trans (hk5.mono (fun _ _ f => f.elim)))
  have HRS5 := hid_of (HRS2.out.same hk5)
  have HX5 : Hid (w5.heap[gx]? = some (.cells (blA d vo nx vc la1) 50 (0, 0))) := (hk5.block _ (heap_lt HGX.out) (fun f => f)).trans HGX.out
  have HV5 := hid_of (hk5.ownsRow HOV.out (fun _ _ f => f))
  have hs5 : wc.heap.size ≤ w5.heap.size := hk5.size
  clear hk5 HPL HRS2 HGX HOV HKW HBC
  have HXO : Hid (BlOk w5 ⟨d, .slice vo nx vc, xs, la1⟩) := ⟨HD.out, HDR.out, HXR.out, HXS.out, (own_bin HV5.out).1⟩
  have HXB : Hid (∀ q, (Value.slice vo nx vc).ownBlock = some q → w.heap.size ≤ q ∧ q < w5.heap.size) := (own_bin HV5.out).2
  cases hf : findB ρ.l d with
  | some b =>
   have hat := (findB_some hf).1
   have hlt := (List.getElem?_eq_some_iff.1 hat).1
   obtain ⟨g, c, hlv⟩ := row_some HRS5.out.row (by show 0 < ρ.l.length; omega)
   have hlv' : lv = .slice (some ⟨g, 0, none⟩) ρ.l.length c := hlv
   subst hlv'
   obtain ⟨n, hn⟩ : ∃ n, n = ρ.l.length := ⟨_, rfl⟩
   obtain ⟨k, hk⟩ : ∃ k, k = atB ρ.l d := ⟨_, rfl⟩
   have HNN := hid_of hn
   have HKK := hid_of hk
   have HF := hid_of hf
   have hgw : g < w.heap.size := HRW.out.bl g rfl
   have hrg : r ≠ g := fun e => HRS5.out.apart (by rw [e]; rfl)
   have HGR := hid_of hrg
   have HGX2 : Hid (gx ≠ g) := by show gx ≠ g; omega
   have c3 : w5.cell? ⟨r, 3, none⟩ = some (.slice (some ⟨g, 0, none⟩) n c) := by rw [hn]; exact HRS5.out.cell 3
   have HTH : Hid (w5.drew.there g (k * 34) (blA d vo nx vc la1).size) := by
    have := own_there HRS5.out.row (k * 34) 34 (by show k * 34 + 34 ≤ ρ.l.length * 34; omega)
    unfold Hid
    rw [blA_size d HD.out]
    exact this
   have hkI : (k : Int) < (n : Int) := by omega
   simp only [← hk]
   clear hat hlt hlv hf hn hk
   go_upto_region 5 with fail
   refine wp_region_held_drew (S := fun w' => w'.cell? ⟨r, 3, none⟩ = some (.slice (some ⟨g, 0, none⟩) n c) ∧ w'.heap[gx]? = some (.cells (blA d vo nx vc la1) 50 (0, 0))) (by kernel_rfl) ⟨c3, HX5.out⟩ (fun hHeld => ?_)
   iterate 3
    refine tkn (v := ?_) 0 rfl ?_ ?_; rotate_left 1
    ·intro w hSw; go_simp; try with_reducible rfl
    try simp only [Act.put, tdy]
   refine tkp (v := ?_) 3 rfl ?_ ?_; rotate_left 1
   ·intro w hSw; obtain ⟨s1, s2⟩ := hSw; go_simp; try with_reducible rfl
   try simp only [Act.put, tdy]
   refine tkp (v := ?_) 4 rfl ?_ ?_; rotate_left 1
   ·intro w hSw; go_simp; try with_reducible rfl
   try simp only [Act.put, tdy]
   refine tkg 5 (.agg (blA d vo nx vc la1)) rfl (yields_row (by rfl) 50 _ rfl gx rfl _ _ _ _ (fun w hSw => hSw.2) Tryz.underlying50 rfl HBI.out) ?_
   try simp only [Act.put, tdy]
   refine tkp (v := ?_) 6 rfl ?_ ?_; rotate_left 1
   ·intro w hSw; go_simp; try with_reducible rfl
   try simp only [Act.put, tdy]
   refine wpAnyH_ready (rs := [7]) (by kernel_rfl) (by simp) ?_
   refine AllReadyH.cons rfl (fun K hK => ?_) .nil
   refine stp_store_mid rfl 50 _ _ rfl g (k * 34) (blA d vo nx vc la1) rfl rfl HTH.out HBI.out (blA_one _ _ _ _ _) ?_
   refine hK.out _ _ ⟨(kept_setCells g _ (k * 34) _).cell c3 (fun e => HGR.out e), ((kept_setCells g _ (k * 34) w5.drew).block gx (heap_lt HX5.out) (fun e => HGX2.out e)).trans (show w5.drew.heap[gx]? = _ from HX5.out)⟩ (fun hHeld => ?_)
   clear hK K
   try simp only [Act.put, tdy]
   refine wpAnyH_done (by kernel_rfl) ?_ _
   have HOVR := hid_of (Rst.over (W := w5.drew) (lo := w.heap.size) (ρ := { ρ with la := ρ.la + 1 }) (HRS5.out.same ((Kept.refl _ _).drew)) ⟨d, .slice vo nx vc, xs, la1⟩ (HXO.out.kept ((Kept.refl (fun _ => False) w5).drew) (fun _ _ _ f => f)) (fun q hq => (HXB.out q hq).1) HRL.out hgw (by show (findB ρ.l d).isSome = true; rw [HF.out]; rfl))
   have HKF : Hid (Kept (OwnR r (.slice (some ⟨g, 0, none⟩) ρ.l.length c)) w (w5.drew.setCells g (k * 34) (blA d vo nx vc la1).toList)) := (HK5.out.drew).trans ((kept_setCells g _ (k * 34) _).mono (fun q _ e => .inr (by rw [e]; rfl)))
   clear hHeld
   go_wp2
   try simp only [Exit.inBlock, Exit.then]
   refine bodyPost_ret (results_none rfl _ _ _) rfl ?_
   refine ⟨⟨_, rfl⟩, .slice (some ⟨g, 0, none⟩) ρ.l.length c, .slice vo nx vc, ?_, HKF.out, .inl rfl, fun q hq => (HXB.out q hq).1⟩
   have h9 := HOVR.out
   rw [← blA_list, ← HKK.out] at h9
   rw [← HLA.out] at h9 ⊢
   exact h9
  | none =>
   have HF := hid_of hf
   obtain ⟨ao, c, hlv⟩ := row_form HRS5.out.row
   have hlv' : lv = .slice ao ρ.l.length c := hlv
   subst hlv'
   obtain ⟨n, hn⟩ : ∃ n, n = ρ.l.length := ⟨_, rfl⟩
   obtain ⟨k, hk⟩ : ∃ k, k = atB ρ.l d := ⟨_, rfl⟩
   have hkn : k ≤ n := by rw [hk, hn]; exact atB_le _ _
   have hnc : n ≤ c := by
    rcases HRS5.out.row.2 with ⟨e, e2⟩ | ⟨g, cap, cur, e, _, _, hnc, _⟩
    ·have e3 : ρ.l.length = 0 := e2
     omega
    ·injection e with _ _ e5
     rw [hn, e5]
     exact hnc
   have HNN := hid_of hn
   have HKK := hid_of hk
   have c3 : w5.cell? ⟨r, 3, none⟩ = some (.slice ao n c) := by rw [hn]; exact HRS5.out.cell 3
   have hlen5 : ∀ b ∈ ρ.l, b.d.length = 32 := HRS5.out.k32
   have hone5 : ∀ u ∈ bls ρ.l, u.oneCell' = true := bls_one (fun b hb => (HRS5.out.ok b hb).bin.one)
   have hsplit : bls ρ.l = bls (ρ.l.take k) ++ bls (ρ.l.drop k) := by rw [← bls_app, List.take_append_drop]
   have hl1 : (bls (ρ.l.take k)).length = k * 34 := by
    rw [bls_len (fun b hb => hlen5 b (List.mem_of_mem_take hb)), List.length_take]
    have : min k ρ.l.length = k := by omega
    rw [this]
   have hl2 : (bls (ρ.l.drop k)).length = (n - k) * 34 := by
    rw [bls_len (fun b hb => hlen5 b (List.mem_of_mem_drop hb)), List.length_drop, hn]
   have hcells : ∀ g, ao = some ⟨g, 0, none⟩ → ∀ W, Kept (fun q => w5.heap.size ≤ q) w5 W → ∀ j u, (bls ρ.l)[j]? = some u → W.cell? ⟨g, j, none⟩ = some u := fun g hg W hW j u hu => by
    subst hg
    have := HRS5.out.row.cells (g := g) rfl j u hu
    rw [Addr.add_lit, Nat.zero_add] at this
    have hgl := HRS5.out.bl g rfl
    exact hW.cell this (fun e => by have e' : w5.heap.size ≤ g := e; omega)
   have hnone : ao = none ∨ ∃ g, ao = some ⟨g, 0, none⟩ := by
    rcases HRS5.out.row.2 with ⟨e, _⟩ | ⟨g, cap, cur, e, _⟩
    ·injection e with e1 _ _; exact .inl e1
    ·injection e with e1 _ _; exact .inr ⟨g, e1⟩
   have hn0 : ao = none → n = 0 := fun e => by
    rcases HRS5.out.row.2 with ⟨e1, e2⟩ | ⟨g, cap, cur, e1, _⟩
    ·have e3 : ρ.l.length = 0 := e2
     omega
    ·rw [e] at e1; injection e1 with e4; cases e4
   have HHO : Hid (∀ b ∈ ρ.l, b.xs ≠ [] → ∀ q, b.bv.ownBlock = some q → q < w5.heap.size) := fun b hb h0 q hq => (HRS5.out.ok b hb).bin.below h0 q hq
   have hfw : n < 1000000 := by rw [hn]; exact HFW.out
   obtain ⟨v7, w7, hr7, ho7, hk7⟩ := app_row (W := w5) (B := w5.heap.size) (World.ownsRow_nil _ _ _ _) (Nat.le_refl _) ao k c (bls (ρ.l.take k)) hl1 (fun q hq j u hu => by
    rcases hnone with e | ⟨g, e⟩
    ·rw [e] at hq; cases hq
    ·rw [e] at hq
     cases hq
     rw [Addr.add_lit, Nat.zero_add]
     exact hcells g e w5 (Kept.refl _ _) j u (by rw [hsplit, List.getElem?_append_left (by rw [hl1]; have := (List.getElem?_eq_some_iff.1 hu).1; omega)]; exact hu)) (fun e => by have := hn0 e; omega) (fun u hu => hone5 u (by rw [hsplit]; exact List.mem_append_left _ hu)) (by omega)
   rw [Nat.zero_add, List.nil_append] at ho7
   have hk57 : Kept (fun _ => False) w5 w7 := hk7.mono (fun q _ e => by cases e)
   obtain ⟨v7o, v7c, rfl⟩ := row_form ho7
   have hX7 : w7.heap[gx]? = some (.cells (blA d vo nx vc la1) 50 (0, 0)) := (hk57.block _ (heap_lt HX5.out) (fun f => f)).trans HX5.out
   have hkb : Kept (fun _ => False) w7 (w7.alloc (.cells (blA d vo nx vc la1) 50)) := (Kept.refl _ _).alloc _
   have hB8 : (w7.alloc (.cells (blA d vo nx vc la1) 50)).heap[w7.heap.size]? = some (.cells (blA d vo nx vc la1) 50 (0, 0)) := alloc_new _ _ rfl
   obtain ⟨v8, w8, hr8, ho8, hk8⟩ := app_row (W := w7.alloc (.cells (blA d vo nx vc la1) 50)) (B := w5.heap.size) (hkb.ownsRow ho7 (fun _ _ f => f)) (Nat.le_trans hk57.size hkb.size) (some ⟨w7.heap.size, 0, none⟩) 1 1 (Bl.cells ⟨d, .slice vo nx vc, xs, la1⟩) (by rw [bl_len HD.out]) (fun q hq j u hu => by
    cases hq
    rw [Addr.add_lit, Nat.zero_add, cell_block _ _ _ _ _ _ hB8, ← Array.getElem?_toList, blA_list d vo nx vc la1 xs]
    exact hu) (fun e => by cases e) (fun u hu => by
    rw [← blA_list] at hu
    have := Array.all_eq_true_iff_forall_mem.1 (blA_one d vo nx vc la1) u (by simpa using hu)
    exact this) (by omega)
   obtain ⟨v8o, v8c, rfl⟩ := row_form ho8
   have hk58 : Kept (fun q => w5.heap.size ≤ q) w5 w8 := ((hk57.trans hkb).mono (fun _ _ f => f.elim)).trans (hk8.mono (fun q _ e => (ho7.lt q e).1))
   have hrl5 : r < w5.heap.size := HRS5.out.lt
   have c38 : w8.cell? ⟨r, 3, none⟩ = some (.slice ao n c) := hk58.cell c3 (fun e => by have e' : w5.heap.size ≤ r := e; omega)
   have HR7 := hid_of hr7
   have HR8 := hid_of hr8
   have HX7 := hid_of hX7
   have HF9 := hid_of (fill_bl (blA d vo nx vc la1) (blA_size d HD.out vo nx vc la1))
   have HAT : Hid (atB ρ.l d = k) := hk.symm
   have hkI : (k : Int) ≤ (n : Int) := by omega
   have hncI : (n : Int) ≤ (c : Int) := by omega
   have hkcI : (k : Int) ≤ (c : Int) := by omega
   simp only [← hk]
   clear hlv hf hn hk hr7 hr8 hX7
   rcases hnone with rfl | ⟨g, rfl⟩
   ·have hnz := hn0 rfl
    subst hnz
    have hkz : k = 0 := by omega
    subst hkz
    have hcz : c = 0 := by
     rcases HRS5.out.row.2 with ⟨e, _⟩ | ⟨g, cap, cur, e, _⟩
     ·injection e
     ·injection e with e4; cases e4
    subst hcz
    obtain ⟨w9, v9, hr9r, ho9, hk59⟩ : ∃ w9 v9, (Builtin.append_ #[40, 40] 40 #[.slice v8o (0 + 1) v8c, .slice none 0 0]).run Tryz.prog w8 = .ok v9 w9 ∧ w9.ownsRow w5.heap.size 50 34 v9 (0 + 1 + (0 - 0)) ((bls (ρ.l.take 0) ++ Bl.cells ⟨d, .slice vo nx vc, xs, la1⟩) ++ bls (ρ.l.drop 0)) ∧ Kept (fun q => w5.heap.size ≤ q) w5 w9 := by
     refine ⟨w8, _, app_zero ho8 none 0, ?_, hk58⟩
     have e1 : bls (ρ.l.drop 0) = [] := List.length_eq_zero_iff.1 (by rw [hl2])
     rw [e1, List.append_nil]
     exact ho8
    have hr9 : w9.cell? ⟨r, 3, none⟩ = some (.slice none 0 0) := hk59.cell c3 (fun e => by have e' : w5.heap.size ≤ r := e; omega)
    have hz9 : w9.frozen? ⟨r, 3, none⟩ = false := frozen_block _ _ _ _ _ ((hk59.block r hrl5 (fun e => by have e' : w5.heap.size ≤ r := e; omega)).trans HRS5.out.blk)
    have HFIN : Hid (Rst (w9.setCell ⟨r, 3, none⟩ v9) r v9 { ρ with la := ρ.la + 1, l := layB ρ.l ⟨d, .slice vo nx vc, xs, la1⟩ }) := by
     refine Rst.more (ρ := { ρ with la := ρ.la + 1 }) (lo := w5.heap.size) HRS5.out ⟨d, .slice vo nx vc, xs, la1⟩ HXO.out (fun q hq => (HXB.out q hq).2) (fun q hq => by have := (HXB.out q hq).1; have := HRL.out; omega) (Nat.le_refl _) HHO.out HF.out (by show ρ.l.length < _; exact HFW.out) hk59 hrl5 ?_
     rw [layB_ins ρ.l ⟨d, .slice vo nx vc, xs, la1⟩ HF.out, show atB ρ.l (Bl.mk d (.slice vo nx vc) xs la1).d = 0 from HAT.out, bls_app, bls_app]
     have e1 : (ρ.l.take 0 ++ [Bl.mk d (.slice vo nx vc) xs la1] ++ ρ.l.drop 0).length = 0 + 1 + (0 - 0) := by
      rw [List.length_append, List.length_append, List.length_take, List.length_drop, ← HNN.out]
      have : min 0 0 = 0 := by omega
      rw [this]
      rfl
     rw [e1]
     have e2 : bls [Bl.mk d (.slice vo nx vc) xs la1] = Bl.cells ⟨d, .slice vo nx vc, xs, la1⟩ := by simp [bls]
     rw [e2]
     exact ho9
    have HKF : Hid (Kept (OwnR r (.slice none ρ.l.length 0)) w (w9.setCell ⟨r, 3, none⟩ v9)) := (HK5.out.step hk59 (fun i hi e => by have e' : w5.heap.size ≤ i := e; omega)).trans ((kept_set w9 ⟨r, 3, none⟩ v9).mono (fun q _ e => .inl e))
    have HN9 : Hid (∀ q, v9.ownBlock = some q → w.heap.size ≤ q) := fun q hq => by have := (ho9.lt q hq).1; omega
    obtain ⟨v9o, v9n, v9c, hv9⟩ : ∃ a b c, v9 = .slice a b c := by obtain ⟨a, b, e⟩ := row_form ho9; exact ⟨a, _, b, e⟩
    subst hv9
    have HR9 := hid_of hr9r
    clear hr9r ho9 hk59 hk8 hk7 hk57 hkb hB8 ho7 ho8 hk58 hcells hsplit hl1 hl2 hone5 hlen5 HRS5 HK5 HV5 HXO HHO
    go_upto_region 8 with (at_builtin; refine wp_app rfl (.tmp 40) (.tmp 46) 40 40 rfl _ _ rfl rfl _ w7 HR7.out ?_)
    go_upto_region 9 with (first | refine wpList_load_row rfl 50 _ rfl gx rfl 50 (blA d vo nx vc la1) (0, 0) _ HX7.out Tryz.underlying50 rfl HBI.out ?_ | refine wpList_build50 rfl _ rfl (blA d vo nx vc la1) rfl HF9.out ?_ | (at_builtin; refine wp_app rfl (.tmp 48) (.tmp 50) 40 40 rfl _ _ rfl rfl _ w8 HR8.out ?_))
    go_wp2_with (at_builtin; refine wp_app rfl (.tmp 53) (.tmp 59) 40 40 rfl _ _ rfl rfl _ w9 HR9.out ?_)
    try simp only [Exit.inBlock, Exit.then]
    refine bodyPost_end (results_none rfl _ _ _) rfl ?_
    refine ⟨⟨_, rfl⟩, .slice v9o v9n v9c, .slice vo nx vc, ?_, HKF.out, .inr HN9.out, fun q hq => (HXB.out q hq).1⟩
    have h9 := HFIN.out
    rw [← HLA.out] at h9 ⊢
    exact h9
   ·by_cases hck : c = k
    ·subst hck
     have hnk : n = c := by omega
     subst hnk
     obtain ⟨w9, v9, hr9r, ho9, hk59⟩ : ∃ w9 v9, (∀ p q, (Builtin.append_ #[40, 40] 40 #[.slice v8o (n + 1) v8c, .slice p 0 q]).run Tryz.prog w8 = .ok v9 w9) ∧ w9.ownsRow w5.heap.size 50 34 v9 (n + 1 + (n - n)) ((bls (ρ.l.take n) ++ Bl.cells ⟨d, .slice vo nx vc, xs, la1⟩) ++ bls (ρ.l.drop n)) ∧ Kept (fun q => w5.heap.size ≤ q) w5 w9 := by
      refine ⟨w8, _, fun p q => app_zero ho8 p q, ?_, hk58⟩
      have e1 : bls (ρ.l.drop n) = [] := List.length_eq_zero_iff.1 (by rw [hl2, Nat.sub_self, Nat.zero_mul])
      rw [e1, List.append_nil, Nat.sub_self]
      exact ho8
     have hr9 : w9.cell? ⟨r, 3, none⟩ = some (.slice (some ⟨g, 0, none⟩) n n) := hk59.cell c3 (fun e => by have e' : w5.heap.size ≤ r := e; omega)
     have hz9 : w9.frozen? ⟨r, 3, none⟩ = false := frozen_block _ _ _ _ _ ((hk59.block r hrl5 (fun e => by have e' : w5.heap.size ≤ r := e; omega)).trans HRS5.out.blk)
     have HFIN : Hid (Rst (w9.setCell ⟨r, 3, none⟩ v9) r v9 { ρ with la := ρ.la + 1, l := layB ρ.l ⟨d, .slice vo nx vc, xs, la1⟩ }) := by
      refine Rst.more (ρ := { ρ with la := ρ.la + 1 }) (lo := w5.heap.size) HRS5.out ⟨d, .slice vo nx vc, xs, la1⟩ HXO.out (fun q hq => (HXB.out q hq).2) (fun q hq => by have := (HXB.out q hq).1; have := HRL.out; omega) (Nat.le_refl _) HHO.out HF.out (by show ρ.l.length < _; exact HFW.out) hk59 hrl5 ?_
      rw [layB_ins ρ.l ⟨d, .slice vo nx vc, xs, la1⟩ HF.out, show atB ρ.l (Bl.mk d (.slice vo nx vc) xs la1).d = n from HAT.out, bls_app, bls_app]
      have e1 : (ρ.l.take n ++ [Bl.mk d (.slice vo nx vc) xs la1] ++ ρ.l.drop n).length = n + 1 + (n - n) := by
       rw [List.length_append, List.length_append, List.length_take, List.length_drop, ← HNN.out]
       have : min n n = n := by omega
       rw [this]
       rfl
      rw [e1]
      have e2 : bls [Bl.mk d (.slice vo nx vc) xs la1] = Bl.cells ⟨d, .slice vo nx vc, xs, la1⟩ := by simp [bls]
      rw [e2]
      exact ho9
     have HKF : Hid (Kept (OwnR r (.slice (some ⟨g, 0, none⟩) ρ.l.length n)) w (w9.setCell ⟨r, 3, none⟩ v9)) := (HK5.out.step hk59 (fun i hi e => by have e' : w5.heap.size ≤ i := e; omega)).trans ((kept_set w9 ⟨r, 3, none⟩ v9).mono (fun q _ e => .inl e))
     have HN9 : Hid (∀ q, v9.ownBlock = some q → w.heap.size ≤ q) := fun q hq => by have := (ho9.lt q hq).1; omega
     obtain ⟨v9o, v9n, v9c, hv9⟩ : ∃ a b c, v9 = .slice a b c := by obtain ⟨a, b, e⟩ := row_form ho9; exact ⟨a, _, b, e⟩
     subst hv9
     have HR9 := hid_of hr9r
     clear hr9r ho9 hk59 hk8 hk7 hk57 hkb hB8 ho7 ho8 hk58 hcells hsplit hl1 hl2 hone5 hlen5 HRS5 HK5 HV5 HXO HHO
     go_upto_region 8 with (at_builtin; refine wp_app rfl (.tmp 40) (.tmp 46) 40 40 rfl _ _ rfl rfl _ w7 HR7.out ?_)
     go_upto_region 9 with (first | refine wpList_load_row rfl 50 _ rfl gx rfl 50 (blA d vo nx vc la1) (0, 0) _ HX7.out Tryz.underlying50 rfl HBI.out ?_ | refine wpList_build50 rfl _ rfl (blA d vo nx vc la1) rfl HF9.out ?_ | (at_builtin; refine wp_app rfl (.tmp 48) (.tmp 50) 40 40 rfl _ _ rfl rfl _ w8 HR8.out ?_))
     go_wp2_with (at_builtin; refine wp_app rfl (.tmp 53) (.tmp 59) 40 40 rfl _ _ rfl rfl _ w9 (HR9.out _ _) ?_)
     try simp only [Exit.inBlock, Exit.then]
     refine bodyPost_end (results_none rfl _ _ _) rfl ?_
     refine ⟨⟨_, rfl⟩, .slice v9o v9n v9c, .slice vo nx vc, ?_, HKF.out, .inr HN9.out, fun q hq => (HXB.out q hq).1⟩
     have h9 := HFIN.out
     rw [← HLA.out] at h9 ⊢
     exact h9
    ·have hckI : ¬ ((c : Int) = (k : Int)) := by omega
     obtain ⟨v9, w9, hr9r, ho9, hk9⟩ := app_row (W := w8) (B := w5.heap.size) ho8 hk58.size (some ⟨g, k * 34, none⟩) (n - k) (c - k) (bls (ρ.l.drop k)) hl2 (fun q hq j u hu => by
      cases hq
      rw [Addr.add_mid]
      exact hcells g rfl w8 hk58 (k * 34 + j) u (by rw [hsplit, List.getElem?_append_right (by rw [hl1]; omega), hl1, show k * 34 + j - k * 34 = j by omega]; exact hu)) (fun e => by cases e) (fun u hu => hone5 u (by rw [hsplit]; exact List.mem_append_right _ hu)) (by omega)
     have hk59 : Kept (fun q => w5.heap.size ≤ q) w5 w9 := hk58.trans (hk9.mono (fun q _ e => (ho8.lt q e).1))
     have hr9 : w9.cell? ⟨r, 3, none⟩ = some (.slice (some ⟨g, 0, none⟩) n c) := hk59.cell c3 (fun e => by have e' : w5.heap.size ≤ r := e; omega)
     have hz9 : w9.frozen? ⟨r, 3, none⟩ = false := frozen_block _ _ _ _ _ ((hk59.block r hrl5 (fun e => by have e' : w5.heap.size ≤ r := e; omega)).trans HRS5.out.blk)
     have HFIN : Hid (Rst (w9.setCell ⟨r, 3, none⟩ v9) r v9 { ρ with la := ρ.la + 1, l := layB ρ.l ⟨d, .slice vo nx vc, xs, la1⟩ }) := by
      refine Rst.more (ρ := { ρ with la := ρ.la + 1 }) (lo := w5.heap.size) HRS5.out ⟨d, .slice vo nx vc, xs, la1⟩ HXO.out (fun q hq => (HXB.out q hq).2) (fun q hq => by have := (HXB.out q hq).1; have := HRL.out; omega) (Nat.le_refl _) HHO.out HF.out (by show ρ.l.length < _; exact HFW.out) hk59 hrl5 ?_
      rw [layB_ins ρ.l ⟨d, .slice vo nx vc, xs, la1⟩ HF.out, show atB ρ.l (Bl.mk d (.slice vo nx vc) xs la1).d = k from HAT.out, bls_app, bls_app]
      have e1 : (ρ.l.take k ++ [Bl.mk d (.slice vo nx vc) xs la1] ++ ρ.l.drop k).length = k + 1 + (n - k) := by
       rw [List.length_append, List.length_append, List.length_take, List.length_drop, ← HNN.out]
       have : min k n = k := by omega
       rw [this]
       rfl
      rw [e1]
      have e2 : bls [Bl.mk d (.slice vo nx vc) xs la1] = Bl.cells ⟨d, .slice vo nx vc, xs, la1⟩ := by simp [bls]
      rw [e2]
      exact ho9
     have HKF : Hid (Kept (OwnR r (.slice (some ⟨g, 0, none⟩) ρ.l.length c)) w (w9.setCell ⟨r, 3, none⟩ v9)) := (HK5.out.step hk59 (fun i hi e => by have e' : w5.heap.size ≤ i := e; omega)).trans ((kept_set w9 ⟨r, 3, none⟩ v9).mono (fun q _ e => .inl e))
     have HN9 : Hid (∀ q, v9.ownBlock = some q → w.heap.size ≤ q) := fun q hq => by have := (ho9.lt q hq).1; omega
     obtain ⟨v9o, v9n, v9c, hv9⟩ : ∃ a b c, v9 = .slice a b c := by obtain ⟨a, b, e⟩ := row_form ho9; exact ⟨a, _, b, e⟩
     subst hv9
     have HR9 := hid_of hr9r
     clear hk9 hr9r ho9 hk59 hk8 hk7 hk57 hkb hB8 ho7 ho8 hk58 hcells hsplit hl1 hl2 hone5 hlen5 HRS5 HK5 HV5 HXO HHO
     go_upto_region 8 with (at_builtin; refine wp_app rfl (.tmp 40) (.tmp 46) 40 40 rfl _ _ rfl rfl _ w7 HR7.out ?_)
     go_upto_region 9 with (first | refine wpList_load_row rfl 50 _ rfl gx rfl 50 (blA d vo nx vc la1) (0, 0) _ HX7.out Tryz.underlying50 rfl HBI.out ?_ | refine wpList_build50 rfl _ rfl (blA d vo nx vc la1) rfl HF9.out ?_ | (at_builtin; refine wp_app rfl (.tmp 48) (.tmp 50) 40 40 rfl _ _ rfl rfl _ w8 HR8.out ?_))
     go_wp2_with (at_builtin; refine wp_app rfl (.tmp 53) (.tmp 59) 40 40 rfl _ _ rfl rfl _ w9 HR9.out ?_)
     try simp only [Exit.inBlock, Exit.then]
     refine bodyPost_end (results_none rfl _ _ _) rfl ?_
     refine ⟨⟨_, rfl⟩, .slice v9o v9n v9c, .slice vo nx vc, ?_, HKF.out, .inr HN9.out, fun q hq => (HXB.out q hq).1⟩
     have h9 := HFIN.out
     rw [← HLA.out] at h9 ⊢
     exact h9
end Go.Proofs.YtjdbmjkidljhpaaGreatDoor

/-
 The document's Twin, by contract.
-/
import Derived.Test.YtjdbmjkidljhpaaGreatDoorTRly
import Derived.Test.YtjdbmjkidljhpaaGreatDoorTRgt
namespace Go.Proofs.YtjdbmjkidljhpaaGreatDoor
open Go.RowKit
set_option linter.unusedVariables false
set_option linter.unusedSimpArgs false
set_option maxRecDepth 100000
/-- As many blobs, with the same in them. -/
def SameL (a b : List Bl) : Prop := a.map (fun x => (x.d, x.xs, x.st)) = b.map (fun x => (x.d, x.xs, x.st))
theorem row_typ {w : World} {B e s n : Nat} {v : Value} {xs : List Value} (h : w.ownsRow B e s v n xs) {q : Nat} (hq : v.ownBlock = some q) : ∃ cur, w.heap[q]? = some (.cells cur e (0, 0)) := by
 rcases h.2 with ⟨rfl, _⟩ | ⟨g, cap, cur, rfl, _, hg, _⟩
 ·cases hq
 ·have e : g = q := Option.some.inj hq
  subst e
  exact ⟨cur, hg⟩
/-- The twin, as far as it is filled. -/
structure TwR (w wr : World) (j : Nat) (v : Value) (ρ : Rg) (cp : List Bl) : Prop where
 blk : wr.heap[w.heap.size]? = some (.cells (ρ.cells v) 42 (0, 0))
 row : wr.ownsRow (w.heap.size + 1) 50 34 v cp.length (bls cp)
 ok : ∀ b ∈ cp, BlOk wr b
 by_ : ∀ b ∈ cp, b.xs ≠ [] → ∀ q, b.bv.ownBlock = some q → w.heap.size < q ∧ ∃ cs, wr.heap[q]? = some (.cells cs 5 (0, 0))
 same : SameL cp (ρ.l.take j)
 kp : Kept (fun _ => False) w wr
theorem TwR.push {w wr W3 w8 : World} {j : Nat} {v v8 bv' : Value} {ρ : Rg} {cp : List Bl} (h : TwR w wr j v ρ cp) (b : Bl) (hb : ρ.l[j]? = some b) (hbk : BlOk wr b) (hk3 : Kept (fun _ => False) wr W3) (hbo : BIn W3 bv' b.xs) (hbn : ∀ q, bv'.ownBlock = some q → wr.heap.size ≤ q ∧ ∃ cs, W3.heap[q]? = some (.cells cs 5 (0, 0)))
  (hk8 : Kept (fun q => v.ownBlock = some q) W3 w8) (hrow : w8.ownsRow (w.heap.size + 1) 50 34 v8 (cp.length + 1) (bls (cp ++ [{ b with bv := bv' }]))) :
  TwR w (w8.setCell ⟨w.heap.size, 3, none⟩ v8) (j + 1) v8 ρ (cp ++ [{ b with bv := bv' }]) := by
 have hT3 := (hk3.block _ (heap_lt h.blk) (fun f => f)).trans h.blk
 have hr3 : W3.ownsRow (w.heap.size + 1) 50 34 v cp.length (bls cp) := hk3.ownsRow h.row (fun _ _ f => f)
 have hTv : v.ownBlock ≠ some w.heap.size := fun e => by have := (hr3.lt _ e).1; omega
 have hT8 : w8.heap[w.heap.size]? = some (.cells (ρ.cells v) 42 (0, 0)) := (hk8.block _ (heap_lt hT3) hTv).trans hT3
 have hS := kept_set w8 ⟨w.heap.size, 3, none⟩ v8
 have hws := h.kp.size
 have all : ∀ y ∈ cp ++ [{ b with bv := bv' }], BlOk W3 y ∧ (y.xs ≠ [] → ∀ q, y.bv.ownBlock = some q → w.heap.size < q ∧ ∃ cs, W3.heap[q]? = some (.cells cs 5 (0, 0))) := fun y hy => by
  rcases List.mem_append.1 hy with hy | hy
  ·refine ⟨(h.ok y hy).kept hk3 (fun _ _ _ f => f), fun h0 q hq => ?_⟩
   obtain ⟨h1, cs, h2⟩ := h.by_ y hy h0 q hq
   exact ⟨h1, cs, (hk3.block q (heap_lt h2) (fun f => f)).trans h2⟩
  ·rw [List.mem_singleton] at hy
   subst hy
   refine ⟨⟨hbk.len, hbk.key, hbk.rng, hbk.short, hbo⟩, fun h0 q hq => ?_⟩
   obtain ⟨h1, h2⟩ := hbn q hq
   have := heap_lt h.blk
   exact ⟨by omega, h2⟩
 have nov : ∀ q cs, W3.heap[q]? = some (.cells cs 5 (0, 0)) → v.ownBlock ≠ some q := fun q cs hq e => by
  obtain ⟨cur, h1⟩ := row_typ hr3 e
  rw [h1] at hq
  injection hq with hq
  injection hq with _ hq _
  exact absurd hq (by decide)
 have all8 : ∀ y ∈ cp ++ [{ b with bv := bv' }], BlOk (w8.setCell ⟨w.heap.size, 3, none⟩ v8) y ∧ (y.xs ≠ [] → ∀ q, y.bv.ownBlock = some q → w.heap.size < q ∧ ∃ cs, (w8.setCell ⟨w.heap.size, 3, none⟩ v8).heap[q]? = some (.cells cs 5 (0, 0))) := fun y hy => by
  obtain ⟨a1, a2⟩ := all y hy
  refine ⟨(a1.kept hk8 (fun h0 q hq => ?_)).kept hS (fun h0 q hq e => ?_), fun h0 q hq => ?_⟩
  ·obtain ⟨_, cs, h2⟩ := a2 h0 q hq
   exact nov q cs h2
  ·obtain ⟨h1, _⟩ := a2 h0 q hq
   have e' : q = w.heap.size := e
   omega
  ·obtain ⟨h1, cs, h2⟩ := a2 h0 q hq
   have h3 := (hk8.block q (heap_lt h2) (nov q cs h2)).trans h2
   exact ⟨h1, cs, (hS.block q (heap_lt h3) (fun e => by have e' : q = w.heap.size := e; omega)).trans h3⟩
 refine ⟨?_, ?_, fun y hy => (all8 y hy).1, fun y hy => (all8 y hy).2, ?_, ?_⟩
 ·rw [set_block _ _ _ _ _ _ hT8]
  rfl
 ·rw [List.length_append]
  exact hS.ownsRow hrow (fun q hq e => by have e' : q = w.heap.size := e; have := (hrow.lt q hq).1; omega)
 ·unfold SameL
  rw [List.take_add_one, hb, List.map_append, List.map_append, show cp.map (fun x => (x.d, x.xs, x.st)) = (ρ.l.take j).map (fun x => (x.d, x.xs, x.st)) from h.same]
  rfl
 ·have hnew : ∀ q, v.ownBlock = some q → w.heap.size ≤ q := fun q hq => by have := (hr3.lt q hq).1; omega
  exact ((h.kp.trans hk3).step hk8 (fun i hi e => by have := hnew i e; omega)).setCell (.inl (Nat.le_refl _)) _
set_option maxHeartbeats 8000000 in
theorem twin_ref {w : World} {r : Nat} {lv : Value} {ρ : Rg} (h : Rst w r lv ρ) :
  Calls Tryz.prog 10 #[.pointer (some ⟨r, 0, none⟩)] w fun e w' => e = .returned (.pointer (some ⟨w.heap.size, 0, none⟩)) ∧ ∃ lv' l', TwR w w' ρ.l.length lv' ρ l' := by
 obtain ⟨ao, c, hlv⟩ := row_form h.row
 subst hlv
 obtain ⟨n, hn⟩ : ∃ n, n = ρ.l.length := ⟨_, rfl⟩
 have hfew := h.few
 have hnI : (n : Int) ≤ 1000000 := by omega
 have hn6 : n ≤ 1000000 := by omega
 have HN := hid_of hn
 have HRS := hid_of h
 have HB : Hid (w.heap[r]? = some (.cells (ρ.cells (.slice ao n c)) 42 (0, 0))) := by
  have := h.blk
  rw [← hn] at this
  exact this
 have hrl : r < w.heap.size := h.lt
 have HC3 : Hid (∀ W, Kept (fun _ => False) w W → W.cell? ⟨r, 3, none⟩ = some (.slice ao n c)) := fun W hW => hW.cell ((cell_block _ _ 3 _ _ _ HB.out).trans rfl) (fun f => f)
 have HZ : Hid ((w.alloc (.cells #[.int .i64 0, .int .i64 0, .int .i64 0, .slice none 0 0, .int .i64 0, .int .i64 0] 42)).heap[w.heap.size]? = some (.cells #[.int .i64 0, .int .i64 0, .int .i64 0, .slice none 0 0, .int .i64 0, .int .i64 0] 42 (0, 0))) := alloc_new _ _ rfl
 have HF := hid_of (setRow_heap (w.alloc (.cells #[.int .i64 0, .int .i64 0, .int .i64 0, .slice none 0 0, .int .i64 0, .int .i64 0] 42)) w.heap.size _ (ρ.cells (.slice ao n c)) 42 (0, 0) HZ.out)
 have HK : Hid (Kept (fun _ => False) w ((w.alloc (.cells #[.int .i64 0, .int .i64 0, .int .i64 0, .slice none 0 0, .int .i64 0, .int .i64 0] 42)).setRow w.heap.size (ρ.cells (.slice ao n c)))) := ((Kept.refl _ w).alloc _).setRow (.inl (Nat.le_refl _)) _
 have hsz : (Tryz.prog.info? 42).map (·.size) = some (ρ.cells (.slice ao n c)).size := by kernel_rfl
 have HOS : Hid (6 = (ρ.cells (.slice ao n c)).size) := rfl
 have hone : (ρ.cells (.slice ao n c)).all (·.oneCell') = true := by simp [Rg.cells, Value.oneCell']
 rw [← hn]
 clear h hn hfew
 go_enter Tryz.func10, Tryz.ntmps10
 go_upto_region 2 with (first | refine wpList_load_row rfl 42 _ rfl r rfl 42 (ρ.cells (.slice ao n c)) (0, 0) _ HB.out Tryz.underlying42 rfl hsz ?_ | refine wpList_store_row rfl 42 _ _ rfl w.heap.size (ρ.cells (.slice ao n c)) rfl rfl 42 _ HZ.out hsz HOS.out hone ?_)
 generalize (w.alloc (.cells #[.int .i64 0, .int .i64 0, .int .i64 0, .slice none 0 0, .int .i64 0, .int .i64 0] 42)).setRow w.heap.size (ρ.cells (.slice ao n c)) = wA at *
 have c3 : wA.cell? ⟨w.heap.size, 3, none⟩ = some (.slice ao n c) := (cell_block _ _ 3 _ _ _ HF.out).trans rfl
 have f3 := frozen_block wA w.heap.size 3 _ _ HF.out
 have HT0 : Hid (TwR w (wA.setCell ⟨w.heap.size, 3, none⟩ (.slice none 0 0)) 0 (.slice none 0 0) ρ []) := ⟨set_block _ _ _ _ _ _ HF.out _, World.ownsRow_nil _ _ _ _, fun b hb => (by cases hb), fun b hb => (by cases hb), rfl, HK.out.setCell (.inl (Nat.le_refl _)) _⟩
 clear HF HK HZ
 go_wp2
 go_loopw [4] (fun i wr => ∃ (j : Nat) (v : Value) (cp : List Bl), j ≤ n ∧ i = .int .i64 j ∧ Hid (TwR w wr j v ρ cp)) (fun i _ => n - (intOf i).toNat)
 case atStart => exact ⟨0, _, _, by omega, rfl, HT0⟩
 case round =>
  clear HT0 c3 f3
  obtain ⟨j, v, cp, hj, rfl, HT⟩ := hrel
  have c3 := HC3.out wr HT.out.kp
  by_cases hlt : j < n
  ·have hjI : (j : Int) < (n : Int) := by omega
   obtain ⟨b, hb⟩ : ∃ b, ρ.l[j]? = some b := ⟨_, List.getElem?_eq_getElem (by rw [← HN.out]; exact hlt)⟩
   have hRW := HRS.out.same HT.out.kp
   have hbk := hRW.ok b (List.mem_of_getElem? hb)
   obtain ⟨gl, cc, hgl⟩ := row_some hRW.row (by rw [← HN.out]; omega)
   have hrow := hRW.row
   rw [hgl] at hrow
   have hra := row_get hrow (fun y hy => (hRW.ok y hy).len) hb
   have hao : ao = some ⟨gl, 0, none⟩ := by injection hgl
   subst hao
   obtain ⟨bo, bc, hbv⟩ := hbk.bin.form
   obtain ⟨vo0, vc0, hv0⟩ := row_form HT.out.row
   have hcl : cp.length = j := by
    have h5 := congrArg List.length HT.out.same
    simp at h5
    have := HN.out
    omega
   have HRA := hid_of hra
   have HBK := hid_of hbk
   have HBE := hid_of hb
   have hi50 : (Tryz.prog.info? 50).map (·.size) = some b.cells.length := by rw [size50, bl_len hbk.len]
   have hi50' : (Tryz.prog.info? 50).map (·.size) = some b.cells.toArray.size := by rw [size50, List.size_toArray, bl_len hbk.len]
   have HO5 : Hid (34 = b.cells.toArray.size) := by show 34 = _; rw [List.size_toArray, bl_len hbk.len]
   have hone5 : b.cells.toArray.all (·.oneCell') = true := by
    rw [show b.cells.toArray = blA b.d bo b.xs.length bc b.st by simp [blA, Bl.cells, hbv]]
    exact blA_one _ _ _ _ _
   have HZ5 : Hid ((wr.alloc (.cells #[.int .u8 0, .int .u8 0, .int .u8 0, .int .u8 0, .int .u8 0, .int .u8 0, .int .u8 0, .int .u8 0, .int .u8 0, .int .u8 0, .int .u8 0, .int .u8 0, .int .u8 0, .int .u8 0, .int .u8 0, .int .u8 0, .int .u8 0, .int .u8 0, .int .u8 0, .int .u8 0, .int .u8 0, .int .u8 0, .int .u8 0, .int .u8 0, .int .u8 0, .int .u8 0, .int .u8 0, .int .u8 0, .int .u8 0, .int .u8 0, .int .u8 0, .int .u8 0, .slice none 0 0, .int .i64 0] 50)).heap[wr.heap.size]? = some (.cells #[.int .u8 0, .int .u8 0, .int .u8 0, .int .u8 0, .int .u8 0, .int .u8 0, .int .u8 0, .int .u8 0, .int .u8 0, .int .u8 0, .int .u8 0, .int .u8 0, .int .u8 0, .int .u8 0, .int .u8 0, .int .u8 0, .int .u8 0, .int .u8 0, .int .u8 0, .int .u8 0, .int .u8 0, .int .u8 0, .int .u8 0, .int .u8 0, .int .u8 0, .int .u8 0, .int .u8 0, .int .u8 0, .int .u8 0, .int .u8 0, .int .u8 0, .int .u8 0, .slice none 0 0, .int .i64 0] 50 (0, 0))) := alloc_new _ _ rfl
   have HX1 := hid_of (setRow_heap (wr.alloc (.cells #[.int .u8 0, .int .u8 0, .int .u8 0, .int .u8 0, .int .u8 0, .int .u8 0, .int .u8 0, .int .u8 0, .int .u8 0, .int .u8 0, .int .u8 0, .int .u8 0, .int .u8 0, .int .u8 0, .int .u8 0, .int .u8 0, .int .u8 0, .int .u8 0, .int .u8 0, .int .u8 0, .int .u8 0, .int .u8 0, .int .u8 0, .int .u8 0, .int .u8 0, .int .u8 0, .int .u8 0, .int .u8 0, .int .u8 0, .int .u8 0, .int .u8 0, .int .u8 0, .slice none 0 0, .int .i64 0] 50)) wr.heap.size _ b.cells.toArray 50 (0, 0) HZ5.out)
   have HK1 : Hid (Kept (fun _ => False) wr ((wr.alloc (.cells #[.int .u8 0, .int .u8 0, .int .u8 0, .int .u8 0, .int .u8 0, .int .u8 0, .int .u8 0, .int .u8 0, .int .u8 0, .int .u8 0, .int .u8 0, .int .u8 0, .int .u8 0, .int .u8 0, .int .u8 0, .int .u8 0, .int .u8 0, .int .u8 0, .int .u8 0, .int .u8 0, .int .u8 0, .int .u8 0, .int .u8 0, .int .u8 0, .int .u8 0, .int .u8 0, .int .u8 0, .int .u8 0, .int .u8 0, .int .u8 0, .int .u8 0, .int .u8 0, .slice none 0 0, .int .i64 0] 50)).setRow wr.heap.size b.cells.toArray)) := ((Kept.refl _ wr).alloc _).setRow (.inl (Nat.le_refl _)) _
   clear hRW hbk hgl hrow hra hb
   go_upto_region 7 with (first | refine wpList_load_mid rfl 50 _ rfl gl (j * 34) rfl b.cells _ HRA.out Tryz.underlying50 rfl hi50 ?_ | refine wpList_store_row rfl 50 _ _ rfl wr.heap.size b.cells.toArray rfl rfl 50 _ HZ5.out hi50' HO5.out hone5 ?_)
   generalize (wr.alloc (.cells #[.int .u8 0, .int .u8 0, .int .u8 0, .int .u8 0, .int .u8 0, .int .u8 0, .int .u8 0, .int .u8 0, .int .u8 0, .int .u8 0, .int .u8 0, .int .u8 0, .int .u8 0, .int .u8 0, .int .u8 0, .int .u8 0, .int .u8 0, .int .u8 0, .int .u8 0, .int .u8 0, .int .u8 0, .int .u8 0, .int .u8 0, .int .u8 0, .int .u8 0, .int .u8 0, .int .u8 0, .int .u8 0, .int .u8 0, .int .u8 0, .int .u8 0, .int .u8 0, .slice none 0 0, .int .i64 0] 50)).setRow wr.heap.size b.cells.toArray = W1 at *
   clear HZ5 HRA c3
   obtain ⟨X, hX⟩ : ∃ q, q = wr.heap.size := ⟨_, rfl⟩
   rw [← hX] at HX1
   try rw [← hX]
   have HXG : Hid (wr.heap.size ≤ X) := by show _ ≤ X; omega
   clear hX
   have c32 : (W1.alloc (.cells #[] 5)).cell? ⟨X, 32, none⟩ = some (.slice bo b.xs.length bc) := by
    rw [cell_block _ _ 32 _ _ _ (alloc_old HX1.out), List.getElem?_toArray]
    unfold Bl.cells
    rw [List.getElem?_append_right (by simp [HBK.out.len]), ← hbv]
    simp [HBK.out.len]
   have hE : (W1.alloc (.cells #[] 5)).heap[W1.heap.size]? = some (.cells #[] 5 (0, 0)) := alloc_new _ _ rfl
   have hkE : Kept (fun _ => False) W1 (W1.alloc (.cells #[] 5)) := (Kept.refl _ _).alloc _
   have hbin2 : BIn (W1.alloc (.cells #[] 5)) (.slice bo b.xs.length bc) b.xs := by
    have := HBK.out.bin
    rw [hbv] at this
    exact (this.kept2 HK1.out (fun _ _ _ f => f)).kept2 hkE (fun _ _ _ f => f)
   obtain ⟨vo, vc, W2, hr2, ho2, hk2⟩ := app_bytes2 (W := W1.alloc (.cells #[] 5)) (b1 := W1.heap.size) (B := wr.heap.size) hE HK1.out.size hbin2 (by have := HBK.out.short; omega)
   have hX1l := heap_lt HX1.out
   have hX2 : W2.heap[X]? = some (.cells b.cells.toArray 50 (0, 0)) := (hk2.block X (heap_lt (alloc_old HX1.out)) (fun e => by have e' : X = W1.heap.size := e; omega)).trans (alloc_old HX1.out)
   have d32 : W2.cell? ⟨X, 32, none⟩ = some (.slice bo b.xs.length bc) := hk2.cell c32 (fun e => by have e' : X = W1.heap.size := e; omega)
   have f32 := frozen_block W2 X 32 _ _ hX2
   have HR2 := hid_of hr2
   have hK02 : Kept (fun _ => False) wr W2 := ((HK1.out.trans hkE)).step hk2 (fun i hi e => by have e' : i = W1.heap.size := e; have := HK1.out.size; omega)
   have HX3 : Hid ((W2.setCell ⟨X, 32, none⟩ (.slice vo b.xs.length vc)).heap[X]? = some (.cells (blA b.d vo b.xs.length vc b.st) 50 (0, 0))) := by
    have h5 := set_block W2 X 32 _ _ _ hX2 (.slice vo b.xs.length vc)
    have e5 : b.cells.toArray.setIfInBounds 32 (.slice vo b.xs.length vc) = blA b.d vo b.xs.length vc b.st := by
     unfold blA Bl.cells
     rw [List.setIfInBounds_toArray, List.set_append_right _ _ (by simp [HBK.out.len])]
     simp [HBK.out.len]
    rw [e5] at h5
    exact h5
   have HK3 : Hid (Kept (fun _ => False) wr (W2.setCell ⟨X, 32, none⟩ (.slice vo b.xs.length vc))) := hK02.setCell (.inl HXG.out) _
   have hkX := kept_set W2 ⟨X, 32, none⟩ (.slice vo b.xs.length vc)
   have hoff : ∀ q, (Value.slice vo b.xs.length vc).ownBlock = some q → q ≠ X := fun q hq e => by
    obtain ⟨cur, h5⟩ := row_typ ho2 hq
    rw [e, hX2] at h5
    injection h5 with h5
    injection h5 with _ h5 _
    exact absurd h5 (by decide)
   have ho3 := hkX.ownsRow ho2 (fun q hq e => hoff q hq e)
   have HO3 := hid_of ho3
   clear hE hkE hbin2 hr2 ho2 hk2 hX2 hK02 hkX hoff ho3 HX1 HK1
   go_upto_region 8 with (at_builtin; refine wp_app rfl (.tmp 26) (.tmp 28) 27 27 rfl _ _ rfl rfl _ W2 HR2.out ?_)
   generalize W2.setCell ⟨X, 32, none⟩ (.slice vo b.xs.length vc) = W3 at *
   clear c32 d32 f32 HR2
   have hT3 : W3.heap[w.heap.size]? = some (.cells (ρ.cells v) 42 (0, 0)) := (HK3.out.block _ (heap_lt HT.out.blk) (fun f => f)).trans HT.out.blk
   have hr3 : W3.ownsRow (w.heap.size + 1) 50 34 v cp.length (bls cp) := HK3.out.ownsRow HT.out.row (fun _ _ f => f)
   have hkb : Kept (fun _ => False) W3 (W3.alloc (.cells (blA b.d vo b.xs.length vc b.st) 50)) := (Kept.refl _ _).alloc _
   have hB8 : (W3.alloc (.cells (blA b.d vo b.xs.length vc b.st) 50)).heap[W3.heap.size]? = some (.cells (blA b.d vo b.xs.length vc b.st) 50 (0, 0)) := alloc_new _ _ rfl
   have hsz3 := HK3.out.size
   have hszw := heap_lt HT.out.blk
   obtain ⟨v8, w8, hr8, ho8, hk8⟩ := app_row (W := W3.alloc (.cells (blA b.d vo b.xs.length vc b.st) 50)) (B := w.heap.size + 1) (hkb.ownsRow hr3 (fun _ _ f => f)) (by have := hkb.size; omega) (some ⟨W3.heap.size, 0, none⟩) 1 1 (Bl.cells ⟨b.d, .slice vo b.xs.length vc, b.xs, b.st⟩) (by simp [Bl.cells, HBK.out.len]) (fun q hq i u hu => by
    cases hq
    rw [Addr.add_lit, Nat.zero_add, cell_block _ _ _ _ _ _ hB8, ← Array.getElem?_toList, blA_list b.d vo b.xs.length vc b.st b.xs]
    exact hu) (fun e => by cases e) (fun u hu => by
    rw [← blA_list] at hu
    exact Array.all_eq_true_iff_forall_mem.1 (blA_one b.d vo b.xs.length vc b.st) u (by simpa using hu)) (by omega)
   obtain ⟨v8o, v8c, hv8⟩ := row_form ho8
   have hTv : v.ownBlock ≠ some w.heap.size := fun e => by have := (hr3.lt _ e).1; omega
   have hT8 : w8.heap[w.heap.size]? = some (.cells (ρ.cells v) 42 (0, 0)) := (hk8.block _ (heap_lt (alloc_old hT3)) hTv).trans (alloc_old hT3)
   have HNX : Hid (TwR w (w8.setCell ⟨w.heap.size, 3, none⟩ v8) (j + 1) v8 ρ (cp ++ [{ b with bv := .slice vo b.xs.length vc }])) := by
    refine HT.out.push (W3 := W3) (w8 := w8) b HBE.out HBK.out HK3.out (own_bin HO3.out).1 (fun q hq => ⟨((own_bin HO3.out).2 q hq).1, row_typ HO3.out hq⟩) ((hkb.mono (fun _ _ f => f.elim)).trans hk8) ?_
    rw [bls_app]
    have e2 : bls [({ b with bv := .slice vo b.xs.length vc } : Bl)] = Bl.cells ⟨b.d, .slice vo b.xs.length vc, b.xs, b.st⟩ := by simp [bls]
    rw [e2]
    exact ho8
   have t3 : W3.cell? ⟨w.heap.size, 3, none⟩ = some v := (cell_block _ _ 3 _ _ _ hT3).trans rfl
   have t8 : w8.cell? ⟨w.heap.size, 3, none⟩ = some v := (cell_block _ _ 3 _ _ _ hT8).trans rfl
   have f8 := frozen_block w8 w.heap.size 3 _ _ hT8
   have HR8 := hid_of hr8
   have HF9 := hid_of (fill_bl (blA b.d vo b.xs.length vc b.st) (blA_size b.d HBK.out.len vo b.xs.length vc b.st))
   have HBI := hid_of (blA_info b.d HBK.out.len vo b.xs.length vc b.st)
   rw [hv8] at HR8 HNX
   rw [hv0] at HR8 t3 t8
   clear hr8 ho8 hk8 hB8 hkb hr3 hT3 hT8 hTv HT HO3 HK3 hv0 hcl hbv hv8 hsz3 hszw hX1l hi50 hi50' hone5
   generalize cp.length = cl at *
   generalize b.xs.length = xl at *
   go_wp2_with (first | refine wpList_load_row rfl 50 _ rfl X rfl 50 (blA b.d vo xl vc b.st) (0, 0) _ HX3.out Tryz.underlying50 rfl HBI.out ?_ | refine wpList_build50 rfl _ rfl (blA b.d vo xl vc b.st) rfl HF9.out ?_ | (at_builtin; refine wp_app rfl (.tmp 32) (.tmp 34) 40 40 rfl _ _ rfl rfl _ w8 HR8.out ?_))
   go_roundw
   case rel => exact ⟨j + 1, _, _, by omega, by go_num, HNX⟩
   case measure => simp [intOf]; omega
  ·have hjI : ¬ (j : Int) < (n : Int) := by omega
   obtain rfl : j = n := by omega
   go_wp2
   go_ret
   exact ⟨rfl, _, _, HT.out⟩
end Go.Proofs.YtjdbmjkidljhpaaGreatDoor

/-
 CasAlls, by contract.
-/
import Derived.Test.YtjdbmjkidljhpaaGreatDoorTAle
import Derived.Test.YtjdbmjkidljhpaaGreatDoorTAld
import Derived.Deep.DeepCutAuto
namespace Go.Proofs.YtjdbmjkidljhpaaGreatDoor
open Go.RowKit Go.Shelf
attribute [local go_sem] Oper.semAt_some
set_option linter.unusedVariables false
set_option linter.unusedSimpArgs false
set_option maxRecDepth 100000
theorem two_ways {A : Prop} {α : Type} (R : α → Prop) {G : α → Prop} (main : (∀ x, R x → G x) → A) (fin : ∀ x, R x → G x) : A := main fin
set_option maxHeartbeats 16000000 in
theorem alls_ok (k : Nat) (cp stop : Int) (vs vm : Value) (ts ms : List Stp) (W : World) (h1 : 1 ≤ k) (h2 : k ≤ 32) (h3 : 0 ≤ cp) (h4 : cp ≤ 67108864) (hL : Laid W) (ht : TIs W vs ts) (hm : TIs W vm ms) :
  Calls Tryz.prog 4 #[.int .i64 k, .int .i64 cp, vs, vm, .int .i64 stop] W fun e w' => e = .returned (.bool true) ∧ Kept (fun _ => False) W w' := by
 obtain ⟨ao, cap, hv, hlm, _⟩ := id ht
 subst hv
 obtain ⟨mo, mc, hmv, hmm, _⟩ := id hm
 subst hmv
 have HT := hid_of ht
 have HM := hid_of hm
 have HKA : Hid (Kept (fun _ => False) W (((W.alloc (.cells #[.slice mo ms.length mc] 22)).alloc (.cells #[.int .i64 stop] 3)).alloc (.cells #[.bool false] 4))) := (((Kept.refl _ W).alloc _).alloc _).alloc _
 have HB8 : Hid ((((W.alloc (.cells #[.slice mo ms.length mc] 22)).alloc (.cells #[.int .i64 stop] 3)).alloc (.cells #[.bool false] 4)).heap[W.heap.size]? = some (.cells #[.slice mo ms.length mc] 22 (0, 0))) := alloc_old (alloc_old (alloc_new _ _ rfl))
 have HB9 : Hid ((((W.alloc (.cells #[.slice mo ms.length mc] 22)).alloc (.cells #[.int .i64 stop] 3)).alloc (.cells #[.bool false] 4)).heap[W.heap.size + 1]? = some (.cells #[.int .i64 stop] 3 (0, 0))) := alloc_old (alloc_new _ _ (by simp))
 have HB10 : Hid ((((W.alloc (.cells #[.slice mo ms.length mc] 22)).alloc (.cells #[.int .i64 stop] 3)).alloc (.cells #[.bool false] 4)).heap[W.heap.size + 1 + 1]? = some (.cells #[.bool false] 4 (0, 0))) := alloc_new _ _ (by simp)
 have hsA : (((W.alloc (.cells #[.slice mo ms.length mc] 22)).alloc (.cells #[.int .i64 stop] 3)).alloc (.cells #[.bool false] 4)).heap.size = W.heap.size + 3 := by simp
 have HMA := hid_of (made_al k cp (((W.alloc (.cells #[.slice mo ms.length mc] 22)).alloc (.cells #[.int .i64 stop] 3)).alloc (.cells #[.bool false] 4)) h1 h2 h3 h4 (laid_kept hL HKA.out (fun f => f)))
 rw [hsA] at HMA
 have HLA := hid_of (laid_kept (S := fun _ => False) hL HKA.out (fun f => f))
 clear ht hm h1 h2 h3 h4 hL
 refine (callsIn_wide (n := 12)).1 ?_
 refine callsIn_of_wp_marks Tryz.func4 rfl trivial ?_ rfl
 simp only [Tryz.ntmps4, List.size_toArray, List.length_cons, List.length_nil, Nat.reduceAdd, Nat.reduceSub, Array.replicate_succ, Array.replicate_zero, List.push_toArray, List.append_toArray, List.nil_append, List.cons_append]
 gi_wp2_with fail
 generalize ((W.alloc (.cells #[.slice mo ms.length mc] 22)).alloc (.cells #[.int .i64 stop] 3)).alloc (.cells #[.bool false] 4) = wA at *
 refine ⟨trivial, (callsIn_wide.2 HMA.out).mono ?_⟩
 rintro e w1 ⟨rfl, hal, hk1⟩
 obtain ⟨g, hg⟩ : ∃ g, g = W.heap.size + 3 + 1 + 1 := ⟨_, rfl⟩
 obtain ⟨r, hr⟩ : ∃ r, r = W.heap.size + 3 + 1 := ⟨_, rfl⟩
 rw [← hg] at hal
 rw [← hr] at hal
 try rw [← hg]
 have HB11 : Hid ((w1.alloc (.cells #[.pointer (some ⟨g, 0, none⟩)] 23)).heap[w1.heap.size]? = some (.cells #[.pointer (some ⟨g, 0, none⟩)] 23 (0, 0))) := alloc_new _ _ rfl
 have HK2 : Hid (Kept (fun _ => False) wA (w1.alloc (.cells #[.pointer (some ⟨g, 0, none⟩)] 23))) := hk1.trans ((Kept.refl _ w1).alloc _)
 have hs1 : W.heap.size + 3 ≤ w1.heap.size := by have := hk1.size; omega
 have HA1 : Hid (Al1 W (w1.alloc (.cells #[.pointer (some ⟨g, 0, none⟩)] 23)) (w1.alloc (.cells #[.pointer (some ⟨g, 0, none⟩)] 23)) k 0 w1.heap.size g r) := by
  have h5 := hal.add (w' := w1.alloc (.cells #[.pointer (some ⟨g, 0, none⟩)] 23)) ((Kept.refl _ w1).alloc _)
  refine ⟨AlS.sub h5 ?_ ?_, Kept.refl _ _⟩
  ·rintro q (hq | hq)
   ·exact .inl hq
   ·exact .inr (by omega)
  ·rintro q (hq | hq)
   ·exact .inl hq
   ·exact .inr (by omega)
 obtain ⟨b11, hb11⟩ : ∃ b, b = w1.heap.size := ⟨_, rfl⟩
 rw [← hb11] at HB11 HA1
 clear hal hk1 hg hr HMA
 gi_wp2_with fail
 rw [← hb11]
 generalize w1.alloc (.cells #[.pointer (some ⟨g, 0, none⟩)] 23) = wB at *
 have hb11L : W.heap.size + 3 ≤ b11 := by omega
 clear hb11
 gi_wp2_with fail
 gi_loopw [13] (fun i wr => ∃ j : Nat, j ≤ ts.length ∧ j ≤ 300 ∧ i = .int .i64 j ∧ Hid (Al1 W wB wr k (2 * j) b11 g r)) (fun i _ => ts.length - (intOf i).toNat)
 case atStart => exact ⟨0, by omega, by omega, rfl, HA1⟩
 case round =>
  clear HA1
  obtain ⟨j, hj, hj3, rfl, HPL⟩ := hrel
  have HWR : Hid (Kept (fun _ => False) W wr) := (HKA.out.trans HK2.out).step HPL.out.kp (fun i hi e => e (.inl (by omega)))
  have HC11 : Hid (∀ w', Kept (fun q => ¬ (q < W.heap.size + 3 ∨ q = b11)) wB w' → w'.cell? ⟨b11, 0, none⟩ = some (.pointer (some ⟨g, 0, none⟩))) := fun w' hw => hw.cell ((cell_block _ _ 0 _ _ _ HB11.out).trans rfl) (fun e => e (.inr rfl))
  by_cases hlt : j < ts.length ∧ j < 300
  ·obtain ⟨t, htj⟩ : ∃ t, ts[j]? = some t := ⟨_, List.getElem?_eq_getElem (by omega)⟩
   obtain ⟨_, _, _, _, hall0⟩ := HT.out
   obtain ⟨hOk, gg, o, hao, hr⟩ := hall0 j t htj
   subst hao
   have hlow := Stp.low hOk
   have hi31 : (Tryz.prog.info? 31).map (·.size) = some t.cells.length := by rw [Stp.clen hOk.dl]; exact size31s
   have HR : Hid (∀ w', Kept (fun q => ¬ (q < W.heap.size + 3 ∨ q = b11)) wB w' → w'.rangeAt gg (o + j * 37) t.cells) := fun w' hw u x hx => by
    have hc := (HKA.out.trans HK2.out).cell (hr u x hx) (fun f => f)
    have hlt := World.block_lt_of_cell? _ _ (hr u x hx)
    exact hw.cell hc (fun e => e (.inl (by have h9 : gg < W.heap.size := hlt; show gg < _; omega)))
   have HST : Hid (Calls Tryz.prog 6 #[.pointer (some ⟨g, 0, none⟩), .agg t.cells.toArray] wr.drew fun e w' => e = .returned (.bool true) ∧ Al1 W wB w' k (2 * (j + 1)) b11 g r) := by
    have hkd : Kept (fun _ => False) wr wr.drew := (Kept.refl _ wr).drew
    refine ((HPL.out.al.grow hkd).step (fun q hq => by have h8 := heap_lt HB11.out; have h9 := HPL.out.kp.size; have h10 := HK2.out.size; have h11 := hkd.size; rcases hq with hq | hq <;> omega) (by omega) t (hOk.kept hlow (HWR.out.trans hkd) (fun _ _ f => f)) ⟨fun h0 q hq => by have := hlow.1 h0 q hq; omega, fun h0 q hq => by have := hlow.2 h0 q hq; omega⟩).mono ?_
    rintro e w' ⟨rfl, h5, h6⟩
    exact ⟨rfl, h5, (HPL.out.kp.trans (hkd.mono (fun _ _ f => f.elim))).trans h6⟩
   have hjI : (j : Int) < (ts.length : Int) := by omega
   have hj3I : (j : Int) < 300 := by omega
   clear hall0 hr hOk htj hlow
   gi_wp2
   refine wpIn_wide.2 ?_
   refine wp_region_noPanic ?_
   refine wp_region_held_drew (S := fun w' => Kept (fun q => ¬ (q < W.heap.size + 3 ∨ q = b11)) wB w') (by kernel_rfl) HPL.out.kp.drew (fun hHeld => ?_)
   iterate 4
    refine tkn (v := ?_) 0 rfl ?_ ?_; rotate_left 1
    ·intro w hSw; have s1 := HC11.out w hSw; go_simp; try with_reducible rfl
    try simp only [Act.put, tdy]
   refine tkg 4 (.agg (t.cells).toArray) rfl (yieldsIf_load_mid (by rfl) 31 _ rfl gg (o + j * 37) rfl (t.cells) _ (fun w hSw => HR.out w hSw) Tryz.underlying31 rfl hi31) ?_
   try simp only [Act.put, tdy]
   refine wpAnyH_ready (rs := [5]) (by kernel_rfl) (by simp) ?_
   refine AllReadyH.cons rfl (fun K hK => ?_) .nil
   go_simp
   refine (HST.out).mono ?_
   rintro e w5 ⟨rfl, hto⟩
   have HNX := hid_of hto
   clear hto HST HR HPL
   refine hK.out _ _ HNX.out.kp (fun hHeld => ?_)
   clear hK K
   try simp only [Act.put, tdy]
   refine tkp (v := ?_) 6 rfl ?_ ?_; rotate_left 1
   ·intro w hSw; go_simp; try with_reducible rfl
   try simp only [Act.put, tdy]
   refine wpAnyH_done (by kernel_rfl) ?_ _
   refine NoPanic.normal ?_
   clear hHeld
   gi_wp2
   go_roundw
   case rel => exact ⟨j + 1, by omega, by omega, by go_num, HNX⟩
   case measure => simp [intOf]; omega
  ·rcases (show ¬ (j : Int) < (ts.length : Int) ∨ (j : Int) < (ts.length : Int) ∧ ¬ (j : Int) < 300 by omega) with hjI | ⟨hjI, hj3I⟩
   all_goals as_aux_lemma =>
    obtain ⟨wz, hwz⟩ : ∃ z : World, z = wr := ⟨_, rfl⟩
    subst hwz
    obtain ⟨s, mv, σ, lv, ρ, iv, mm, hWd, hP, hX⟩ := HPL.out.al
    have HWD := hid_of hWd
    have HPX := hid_of (And.intro hP hX)
    have hn6 : 2 * j ≤ 900000 := by omega
    have HTW := hid_of (twin_ref hWd.two.rs)
    have c11 := HC11.out wz HPL.out.kp
    have cg0 : wz.cell? ⟨g, 0, none⟩ = some (.pointer (some ⟨s, 0, none⟩)) := (cell_block _ _ 0 _ _ _ hWd.blk).trans rfl
    have cg1 : wz.cell? ⟨g, 1, none⟩ = some (.pointer (some ⟨r, 0, none⟩)) := (cell_block _ _ 1 _ _ _ hWd.blk).trans rfl
    have HCR : Hid (∀ w', Kept (fun _ => False) wz w' → w'.cell? ⟨b11, 0, none⟩ = some (.pointer (some ⟨g, 0, none⟩)) ∧ w'.cell? ⟨g, 0, none⟩ = some (.pointer (some ⟨s, 0, none⟩)) ∧ w'.cell? ⟨g, 1, none⟩ = some (.pointer (some ⟨r, 0, none⟩))) := fun w' hw => ⟨hw.cell c11 (fun f => f), hw.cell cg0 (fun f => f), hw.cell cg1 (fun f => f)⟩
    clear hWd hP hX
    gi_wp2_with fail
    refine ⟨trivial, (callsIn_wide.2 HTW.out).mono ?_⟩
    rintro e w6 ⟨rfl, lv', l', hT⟩
    have HTR := hid_of hT
    have HK6 := hid_of hT.kp
    have c3 : w6.cell? ⟨wz.heap.size, 3, none⟩ = some lv' := (cell_block _ _ 3 _ _ _ hT.blk).trans rfl
    obtain ⟨wo, wcap, hlv⟩ := row_form hT.row
    subst hlv
    have HK7 : Hid (Kept (fun _ => False) wz (w6.alloc (.cells #[.slice wo l'.length wcap] 40))) := hT.kp.trans ((Kept.refl _ w6).alloc _)
    obtain ⟨c11', cg0', cg1'⟩ := HCR.out _ HK7.out
    have HALL := hid_of (all_full2 (w := w6.alloc (.cells #[.slice wo l'.length wcap] 40)) (HWD.out.same HK7.out).two.st (by have := HWD.out.two.alk.len; have := HWD.out.two.cnt; omega))
    have HB14 : Hid ((w6.alloc (.cells #[.slice wo l'.length wcap] 40)).heap[w6.heap.size]? = some (.cells #[.slice wo l'.length wcap] 40 (0, 0))) := alloc_new _ _ rfl
    have HK67 : Hid (Kept (fun _ => False) w6 (w6.alloc (.cells #[.slice wo l'.length wcap] 40))) := (Kept.refl _ w6).alloc _
    obtain ⟨b14, hb14⟩ : ∃ b, b = w6.heap.size := ⟨_, rfl⟩
    have HS6 := hid_of hT.kp.size
    rw [← hb14] at HB14
    clear hT c11 cg0 cg1 HTW
    gi_wp2_with fail
    refine ⟨trivial, (callsIn_wide.2 HALL.out).mono ?_⟩
    rintro e w8 ⟨B0, B1, B2, rr, clock, ds, ao', cap', rfl, hRO, hf, hB0l, hB0⟩
    rw [← hb14]
    have HK9 : Hid (Kept (fun _ => False) w8 (w8.alloc (.cells #[.func (.func 29) #[] #[.pointer (some ⟨B0, 0, none⟩)]] 47))) := (Kept.refl _ w8).alloc _
    have HSN := hid_of (snap_of HWD.out hn6 HTR.out HK67.out hRO hf hB0 HK9.out)
    have HB15 : Hid ((w8.alloc (.cells #[.func (.func 29) #[] #[.pointer (some ⟨B0, 0, none⟩)]] 47)).heap[w8.heap.size]? = some (.cells #[.func (.func 29) #[] #[.pointer (some ⟨B0, 0, none⟩)]] 47 (0, 0))) := alloc_new _ _ rfl
    have HRO := hid_of hRO
    have HK79 := hid_of (hRO.kp.trans HK9.out)
    have HB14' := hid_of ((HK79.out.block b14 (heap_lt HB14.out) (fun f => f)).trans HB14.out)
    have hB0' : wz.heap.size ≤ B0 := by have := HK7.out.size; omega
    clear hRO hf hB0l HALL HB14 c11' cg0' cg1' c3
    have hB0w := hB0
    obtain ⟨b15, hb15⟩ : ∃ b, b = w8.heap.size := ⟨_, rfl⟩
    rw [← hb15] at HB15
    gi_wp2_with fail
    try rw [← hb15]
    generalize w8.alloc (.cells #[.func (.func 29) #[] #[.pointer (some ⟨B0, 0, none⟩)]] 47) = w9 at *
    have HQ : ∀ (W : World), (binOp .eql 47 (.func (.func 29) #[] #[.pointer (some ⟨B0, 0, none⟩)]) Value.nilFunc).run Tryz.prog W = .ok (.bool false) W := fun W => rfl
    have c15 : w9.cell? ⟨b15, 0, none⟩ = some (.func (.func 29) #[] #[.pointer (some ⟨B0, 0, none⟩)]) := (cell_block _ _ 0 _ _ _ HB15.out).trans rfl
    first | rw [HQ] | simp only [HQ] | skip
    have HB16 : Hid ((w9.alloc (.cells #[.int .i64 0] 3)).heap[w9.heap.size]? = some (.cells #[.int .i64 0] 3 (0, 0))) := alloc_new _ _ rfl
    have HK10 : Hid (Kept (fun _ => False) w9 (w9.alloc (.cells #[.int .i64 0] 3))) := (Kept.refl _ w9).alloc _
    have hs10 : (w9.alloc (.cells #[.int .i64 0] 3)).heap.size = w9.heap.size + 1 := by simp
    gi_wp2_with fail
    generalize w9.alloc (.cells #[.int .i64 0] 3) = w10 at *
    clear HQ c15
    have HKR : Hid (Kept (fun _ => False) wz w10) := (HK7.out.trans HK79.out).trans HK10.out
    obtain ⟨Z, hZ⟩ : ∃ Z, Z = Zs σ.es B0 B1 B2 rr ao' := ⟨_, rfl⟩
    rw [← hZ] at HSN
    have HZN : Hid (∀ q, Z q → (wz.heap.size ≤ q ∧ q < w10.heap.size) ∨ Blo σ ρ q) := by
     rw [hZ]
     have s7 := HK7.out.size
     have s8 := HK9.out.size
     have s10 := HK10.out.size
     have n1 := HRO.out.n1
     have n2 := HRO.out.n2
     have n3 := HRO.out.n3
     rintro q (rfl | rfl | rfl | rfl | ⟨g', o', e, rfl⟩ | ⟨e, he, h0, hq⟩)
     ·exact .inl ⟨by omega, by omega⟩
     ·exact .inl ⟨by omega, by omega⟩
     ·exact .inl ⟨by omega, by omega⟩
     ·exact .inl ⟨by omega, by omega⟩
     ·have n4 := HRO.out.n4 _ _ e
      exact .inl ⟨by omega, by omega⟩
     ·exact .inr (.inl ⟨e, he, h0, hq⟩)
    have HA0 := hid_of ((al2_of HWD.out HPX.out.1 HPX.out.2 HKR.out HZN.out).more (n' := 600) (by omega))
    have HP2 : Hid ((∀ q, q < W.heap.size + 3 → P2s W wz w10 b11 Z q) ∧ P2s W wz w10 b11 Z b11 ∧ (∀ q, wz.heap.size ≤ q → q < w10.heap.size → P2s W wz w10 b11 Z q) ∧ ∀ q, Z q → P2s W wz w10 b11 Z q) := ⟨fun q h => .inl h, .inr (.inl rfl), fun q h h' => .inr (.inr (.inl ⟨h, h'⟩)), fun q h => .inr (.inr (.inr h))⟩
    have HZlt : Hid (∀ q, Z q → q < w10.heap.size) := fun q hq => by
     rcases HZN.out q hq with h | h
     ·exact h.2
     ·have := HWD.out.two.blt q h
      have := HKR.out.size
      omega
    have HC10 : Hid (w10.cell? ⟨b11, 0, none⟩ = some (.pointer (some ⟨g, 0, none⟩))) := HKR.out.cell (HC11.out wz HPL.out.kp) (fun f => f)
    have HB10' : Hid (w10.heap[W.heap.size + 1 + 1]? = some (.cells #[.bool false] 4 (0, 0))) := by
     have h5 := (HK2.out.block _ (heap_lt HB10.out) (fun f => f)).trans HB10.out
     have h6 := (HPL.out.kp.block _ (heap_lt h5) (fun e => e (.inl (by omega)))).trans h5
     exact (HKR.out.block _ (heap_lt h6) (fun f => f)).trans h6
    have HB8' : Hid (w10.heap[W.heap.size]? = some (.cells #[.slice mo ms.length mc] 22 (0, 0))) := by
     have h5 := (HK2.out.block _ (heap_lt HB8.out) (fun f => f)).trans HB8.out
     have h6 := (HPL.out.kp.block _ (heap_lt h5) (fun e => e (.inl (by omega)))).trans h5
     exact (HKR.out.block _ (heap_lt h6) (fun f => f)).trans h6
    have HB9' : Hid (w10.heap[W.heap.size + 1]? = some (.cells #[.int .i64 stop] 3 (0, 0))) := by
     have h5 := (HK2.out.block _ (heap_lt HB9.out) (fun f => f)).trans HB9.out
     have h6 := (HPL.out.kp.block _ (heap_lt h5) (fun e => e (.inl (by omega)))).trans h5
     exact (HKR.out.block _ (heap_lt h6) (fun f => f)).trans h6
    have HP2lt : Hid (∀ q, P2s W wz w10 b11 Z q → q < w10.heap.size) := fun q hq => by
     have h5 := heap_lt HB10'.out
     have h6 := World.block_lt_of_cell? _ _ HC10.out
     rcases hq with hq | hq | hq | hq
     ·omega
     ·have h7 : b11 < w10.heap.size := h6
      omega
     ·exact hq.2
     ·exact HZlt.out q hq
    have HX2 : Hid (∀ q, wz.heap.size ≤ q → X2s W wz b11 q) := fun q h => .inr (.inr h)
    generalize P2s W wz w10 b11 Z = P2 at *
    generalize X2s W wz b11 = X2 at *
    have HSZ : Hid (wz.heap.size ≤ w9.heap.size ∧ wz.heap.size ≤ b14 ∧ b14 < w9.heap.size ∧ wz.heap.size ≤ b15 ∧ b15 < w9.heap.size ∧ b14 = w6.heap.size) := by
     have s7 := HK7.out.size
     have s8 := HK9.out.size
     have s9 := (HK7.out.trans HK79.out).size
     have := heap_lt HB14'.out
     have := heap_lt HB15.out
     have := HS6.out
     have h8 := HRO.out.kp.size
     exact ⟨by omega, by omega, by omega, by omega, by omega, hb14⟩
    have HL2 : Hid (Al2 P2 X2 (W.heap.size + 3) w10 w10 k g r 0 w9.heap.size []) := ⟨HA0.out.sub (fun q hq => by
      rcases hq with hq | rfl | hq
      ·exact hq
      ·exact HP2.out.2.2.1 _ HSZ.out.1 (by omega)
      ·cases hq) (fun q hq => hq), Kept.refl _ _, HB16.out, List.nodup_nil, rfl, fun D hD => (by cases hD), fun D hD => (by cases hD)⟩
    have HW10 : Hid (Kept (fun _ => False) W w10) := HWR.out.trans HKR.out
    clear HWD HPX HA0 HRO hZ HZN HTR HPL HC11 HCR
    subst hb14 hb15
    refine loop_sets 2 [16, 17, 69, 70, 71, 72, 73, 181, 182, 183, 184, 185, 186, 187, 188, 189] (fun us ds w => ∃ (tn b16 : Nat) (Ds : List Nat) (u17 u69 u70 u71 u72 u73 u181 u182 u183 u184 u185 u186 u187 u188 u189 : Value), us = [.pointer (some ⟨b16, 0, none⟩), u17, u69, u70, u71, u72, u73, u181, u182, u183, u184, u185, u186, u187, u188, u189] ∧ ds = Ds.map mk ∧ tn ≤ 2 ∧ Hid (Al2 P2 X2 (W.heap.size + 3) w10 w k g r tn b16 Ds)) [.pointer (some ⟨w9.heap.size, 0, none⟩), undef, undef, undef, undef, undef, undef, undef, undef, undef, undef, undef, undef, undef, undef, undef] (by simp only [setAll, tdy]) ⟨0, _, [], _, _, _, _, _, _, _, _, _, _, _, _, _, _, _, rfl, rfl, by omega, HL2⟩ ?_
    rintro us ds' w ⟨tn, b16, Ds, u17, u69, u70, u71, u72, u73, u181, u182, u183, u184, u185, u186, u187, u188, u189, rfl, rfl, htn, HA2⟩
    simp only [setAll, tdy]
    clear HL2
    by_cases h2 : tn < 2
    ·have cT : w.cell? ⟨b16, 0, none⟩ = some (.int .i64 (tn : Int)) := (cell_block _ _ 0 _ _ _ HA2.out.bx).trans rfl
     have htI : (tn : Int) < 2 := by omega
     have hc15 : w.cell? ⟨w8.heap.size, 0, none⟩ = some (.func (.func 29) #[] #[.pointer (some ⟨B0, 0, none⟩)]) := by
      have h5 : w10.cell? ⟨w8.heap.size, 0, none⟩ = some (.func (.func 29) #[] #[.pointer (some ⟨B0, 0, none⟩)]) := HK10.out.cell ((cell_block _ _ 0 _ _ _ HB15.out).trans rfl) (fun f => f)
      exact HA2.out.kp.cell h5 (fun e => e (HP2.out.2.2.1 w8.heap.size HSZ.out.2.2.2.1 (by have := HSZ.out.2.2.2.2.1; omega)))
     have c15' : (w.alloc (.cells #[.int .i64 0] 3)).cell? ⟨w8.heap.size, 0, none⟩ = some (.func (.func 29) #[] #[.pointer (some ⟨B0, 0, none⟩)]) := ((Kept.refl (fun _ => False) w).alloc _).cell hc15 (fun f => f)
     have hs11 : (w.alloc (.cells #[.int .i64 0] 3)).heap.size = w.heap.size + 1 := by simp
     have HB17 : Hid ((w.alloc (.cells #[.int .i64 0] 3)).heap[w.heap.size]? = some (.cells #[.int .i64 0] 3 (0, 0))) := alloc_new _ _ rfl
     have HK11 : Hid (Kept (fun _ => False) w (w.alloc (.cells #[.int .i64 0] 3))) := (Kept.refl _ w).alloc _
     gi_wp2_with fail
     generalize w.alloc (.cells #[.int .i64 0] 3) = w11 at *
     clear c15' cT hc15
     obtain ⟨b17, hb17⟩ : ∃ b, b = w.heap.size := ⟨_, rfl⟩
     have hwl : wz.heap.size ≤ w.heap.size := by have := HA2.out.kp.size; have := HKR.out.size; omega
     have HA3 : Hid (Al3 P2 X2 (W.heap.size + 3) w11 w11 k g r (600 + 80 * tn) b16 w.heap.size Ds 0) := by
      refine ⟨(HA2.out.al.add HK11.out).sub ?_ ?_, Kept.refl _ _, HB17.out⟩
      ·rintro q (hq | hq | hq | hq | hq)
       ·exact .inl (.inl hq)
       ·exact .inl (.inr (.inl hq))
       ·exact .inl (.inr (.inr hq))
       ·exact .inr (by omega)
       ·exact .inr (by omega)
      ·exact fun q hq => .inl hq
     have HKZ : Hid (KeepsB Z w9 w11) := by
      have s10 := HK10.out.size
      have s11 := HK11.out.size
      refine ⟨by have := HA2.out.kp.size; omega, fun q hq hl => ?_⟩
      rw [HK11.out.block q (by have := HA2.out.kp.size; omega) (fun f => f), HA2.out.kp.block q (by omega) (fun e => e (HP2.out.2.2.2 q hq)), HK10.out.block q hl (fun f => f)]
     have HKW : Hid (KeepsB (fun q => wz.heap.size ≤ q ∧ q < w9.heap.size) w9 w11) := by
      have s10 := HK10.out.size
      have s11 := HK11.out.size
      refine ⟨by have := HA2.out.kp.size; omega, fun q hq hl => ?_⟩
      rw [HK11.out.block q (by have := HA2.out.kp.size; omega) (fun f => f), HA2.out.kp.block q (by omega) (fun e => e (HP2.out.2.2.1 q hq.1 (by omega))), HK10.out.block q hl (fun f => f)]
     have HZL : Hid (∀ q, Z q → P2 q) := HP2.out.2.2.2
     have hw0 : w.heap.size ≠ 0 := by have := heap_lt HB10'.out; have := HA2.out.kp.size; omega
     have hw1011 : w10.heap.size ≤ w11.heap.size := by have := HA2.out.kp.size; omega
     have HW11 : Hid (Kept (fun _ => False) W w11) := (HW10.out.step HA2.out.kp (fun i hi e => e (HP2.out.1 i (by omega)))).trans HK11.out
     have HC8 : Hid (∀ w', Kept (fun q => ¬ (P2 q ∨ q = b16 ∨ q ∈ Ds)) w11 w' → w'.cell? ⟨b16, 0, none⟩ = some (.int .i64 (tn : Int)) ∧ w'.cell? ⟨W.heap.size, 0, none⟩ = some (.slice mo ms.length mc) ∧ w'.cell? ⟨W.heap.size + 1, 0, none⟩ = some (.int .i64 stop) ∧ w'.cell? ⟨b11, 0, none⟩ = some (.pointer (some ⟨g, 0, none⟩))) := fun w' hw => by
      have key : ∀ (q o : Nat) (v : Value), P2 q → w10.cell? ⟨q, o, none⟩ = some v → w'.cell? ⟨q, o, none⟩ = some v := fun q o v hq hc => hw.cell (HK11.out.cell (HA2.out.kp.cell hc (fun e => e hq)) (fun f => f)) (fun e => e (.inl hq))
      refine ⟨hw.cell (HK11.out.cell ((cell_block _ _ 0 _ _ _ HA2.out.bx).trans rfl) (fun f => f)) (fun e => e (.inr (.inl rfl))), key _ _ _ (HP2.out.1 _ (by omega)) ((cell_block _ _ 0 _ _ _ HB8'.out).trans rfl), key _ _ _ (HP2.out.1 _ (by omega)) ((cell_block _ _ 0 _ _ _ HB9'.out).trans rfl), key _ _ _ HP2.out.2.1 HC10.out⟩
     have HPR : Hid (∀ q, P2 q ∨ q = b16 ∨ q ∈ Ds ∨ q = w.heap.size → q < w11.heap.size) := fun q hq => by
      rcases hq with hq | rfl | hq | rfl
      ·have := HP2lt.out q hq; omega
      ·have := heap_lt HA2.out.bx; omega
      ·have := heap_lt (HA2.out.dd q hq); omega
      ·omega
     have HP17 : Hid (∀ q, P2 q ∨ q = b16 ∨ q ∈ Ds → q ≠ w.heap.size) := fun q hq e => by
      subst e
      rcases hq with hq | hq | hq
      ·have := HP2lt.out _ hq; have := HA2.out.kp.size; omega
      ·have := heap_lt HA2.out.bx; omega
      ·have := heap_lt (HA2.out.dd _ hq); omega
     refine range_seqM (by omega) (gf := 29) (lb := #[.pointer (some ⟨B0, 0, none⟩)]) rfl (enters_of Tryz.func29 (by kernel_rfl) rfl) Cb.loop Cb.kept (HSN.out.seq (fun q => ¬ Z q ∧ (q < w11.heap.size ∨ w11.heap.size + 5 ≤ q)) (fun q => ¬ Z q ∧ (q < w11.heap.size ∨ w11.heap.size + 5 ≤ q)) (fun q hz hy => hy.1 hz) (fun q hz hy => hy.1 hz) 11 (by omega)) (fun q hq => by rcases hq with hq | hq <;> (have := hq.2; omega)) HKZ.out (fun x => by rfl)
      (fun pre A => Al3 P2 X2 (W.heap.size + 3) w11 A k g r (600 + 80 * tn) b16 w.heap.size Ds pre.length) (fun pre A C row h hg hr => h.frm (by omega) (by omega) hg hr)
      (fun A => tn = 0 ∧ ∃ nn, Al3 P2 X2 (W.heap.size + 3) w11 A k g r (600 + 80 * tn) b16 w.heap.size Ds nn) (fun _ A C row h hg hr => by
       obtain ⟨h0, nn, h⟩ := h
       exact ⟨h0, nn, h.frm (by omega) (by omega) hg hr⟩) (.exit 4) (.exit 4) (.inr ⟨4, rfl, rfl⟩) HA3.out ?_ ?_ ?_
     ·skip
      intro l pre x A W1 K hi hAW hcx hl1 hl2 hlen hbgA hk
      have hkl := (HSN.out.key x.1.1.1 x.1.1.2).1
      have hds := size28_of x.1.1.1.k hkl
      have honed := oneCells .u8 x.1.1.1.k
      have HOD : Hid (32 = (x.1.1.1.k.map (Value.int .u8)).toArray.size) := by show 32 = _; simp [hkl]
      unfold dv
      gi_wp2_with (refine inList_store_row rfl 29 _ _ rfl W1.heap.size (x.1.1.1.k.map (Value.int .u8)).toArray rfl rfl 29 _ (alloc_new _ _ rfl) hds HOD.out honed ?_; rw [setRow_new _ _ _ _ rfl])
      intro A' U hiA hAU hc hsz hB hlr
      have hbig : w11.heap.size ≤ A'.heap.size := hiA.kp.size
      have hAUs := hAU.size
      have HKU : Hid (KeepsB (fun q => wz.heap.size ≤ q ∧ q < w9.heap.size) w9 U) := by
       refine ⟨by have := HKW.out.size; omega, fun q hq hl => ?_⟩
       rw [hAU.block q (by have := HKW.out.size; omega) (fun f => f), hiA.kp.block q (by have := HKW.out.size; omega) (fun e => e (.inl (HP2.out.2.2.1 q hq.1 (by omega)))), HKW.out.same q hq hl]
      have HKZU : Hid (KeepsB Z w9 U) := by
       refine ⟨by have := HKZ.out.size; omega, fun q hq hl => ?_⟩
       rw [hAU.block q (by have := HKZ.out.size; omega) (fun f => f), hiA.kp.block q (by have := HKZ.out.size; omega) (fun e => e (.inl (HZL.out q hq))), HKZ.out.same q hq hl]
      have cN : U.cell? ⟨w.heap.size, 0, none⟩ = some (.int .i64 (pre.length : Int)) := hAU.cell ((cell_block _ _ 0 _ _ _ hiA.bx).trans rfl) (fun f => f)
      obtain ⟨gl, wc2, bo, bc, ax, cx, hwv, hx, hra, hsm, hxl⟩ := sees HSN.out HKU.out hc
      obtain ⟨hwo, hll, hcc⟩ : wo = some ⟨gl, 0, none⟩ ∧ l'.length = ρ.l.length ∧ wcap = wc2 := by
       injection hwv with a b c
       exact ⟨a, b, c⟩
      subst hwo
      have HSM := hid_of hsm
      have HNE : ∀ (W' : World), (binOp .neq 29 (.agg (x.1.1.1.k.map (Value.int .u8)).toArray) (.agg (x.1.1.1.k.map (Value.int .u8)).toArray)).run Tryz.prog W' = .ok (.bool false) W' := fun W' => by
       have := run_neq32 W' 29 x.1.1.1.k x.1.1.1.k Tryz.underlying29 hkl hkl
       rw [decide_eq_true rfl] at this
       exact this
      have HS20 : Hid (∀ w', Kept (fun _ => False) U w' → w'.cell? ⟨w.heap.size, 0, none⟩ = some (.int .i64 (pre.length : Int)) ∧ w'.cell? ⟨w6.heap.size, 0, none⟩ = some (.slice (some ⟨gl, 0, none⟩) l'.length wcap) ∧ w'.cell? ⟨gl, pre.length * 34 + 32, none⟩ = some (.slice bo x.1.1.1.xs.length bc)) := fun w' hw =>
       ⟨hw.cell cN (fun f => f), hw.cell (HKU.out.cell ⟨HSZ.out.2.1, HSZ.out.2.2.1⟩ ((cell_block _ _ 0 _ _ _ HB14'.out).trans rfl)) (fun f => f), (hra w' hw).2⟩
      have HMID : Hid (∀ w', Kept (fun _ => False) U w' → w'.rangeAt gl (pre.length * 34) (x.1.1.1.k.map (Value.int .u8))) := fun w' hw => (hra w' hw).1
      have HBX : Hid (∀ w', Kept (fun _ => False) U w' → w'.heap[W1.heap.size]? = some (.cells (x.1.1.1.k.map (Value.int .u8)).toArray 29 (0, 0))) := fun w' hw => (hw.block _ (heap_lt hB) (fun f => f)).trans hB
      have HDS := hid_of (size29_arr x.1.1.1.k hkl)
      have HDL2 := hid_of (size29_lst x.1.1.1.k hkl)
      have hpl : pre.length < l'.length := by rw [hll, ← HSN.out.len]; exact hlen
      have hplm : l'.length ≤ 900000 := by rw [hll]; exact HSN.out.few
      have hplI : (pre.length : Int) < (l'.length : Int) := by omega
      have HPG : Hid (¬ ((l'.length : Int) ≤ (pre.length : Int))) := by show ¬ _; omega
      have hown := hc.1
      rw [hx] at hown
      obtain ⟨gb, hgb, hgl', hgo⟩ := own_gb hown hAUs
      have HGO := hid_of hgo
      have hgb5 : w11.heap.size + 5 ≤ gb := by omega
      have hA5 : w11.heap.size + 5 ≤ A'.heap.size := by omega
      have HAU := hid_of hAU
      have HHI := hid_of hiA
      have HLR := hid_of hlr
      have hNI : (pre ++ [x]).length = pre.length + 1 := by simp
      rw [hx, hNI]
      clear hsm hra hwv hown hgo hi hcx hc hNI hx hkl hds honed HOD hiA hlr cN hll hcc hsz hlen hAW hB hAU
      generalize pre.length = pl at *
      generalize x.1.1.1.xs.length = xl at *
      generalize x.1.1.1.k.map (Value.int .u8) = kl at *
      generalize hkkE : kl.toArray = kk at *
      have HKL := hid_of hkkE
      clear hkkE
      gi_wp2
      refine wpIn_region_held (IsWide.in_ l) (S := fun w' => Kept (fun _ => False) U w') (by kernel_rfl) (by kernel_rfl) (by rintro ⟨_, _, h9⟩; rcases h9 with h9 | h9 <;> exact absurd h9.1 (by simp)) ((Kept.refl _ _).drew) (fun hHeld => ?_)
      iterate 3
       refine tkn (v := ?_) 0 rfl ?_ ?_; rotate_left 1
       ·intro w hSw; obtain ⟨s1, s2, s3⟩ := HS20.out w hSw; go_simp; try with_reducible rfl
       try simp only [Act.put, tdy]
      refine tkp (v := .bool false) 3 rfl ?_ ?_
      ·intro w hSw
       obtain ⟨s1, s2, s3⟩ := HS20.out w hSw
       go_simp
       all_goals (try omega)
      try simp only [Act.put, tdy]
      refine tkp (v := ?_) 4 rfl ?_ ?_; rotate_left 1
      ·intro w hSw; obtain ⟨s1, s2, s3⟩ := HS20.out w hSw; go_simp; try with_reducible rfl
      try simp only [Act.put, tdy]
      refine tkg 5 (.agg kk) rfl (yields_row (by rfl) 29 _ rfl W1.heap.size rfl _ _ _ _ (fun w hSw => HBX.out w hSw) Tryz.underlying29 rfl HDS.out) ?_
      try simp only [Act.put, tdy]
      iterate 4
       refine tkn (v := ?_) 6 rfl ?_ ?_; rotate_left 1
       ·intro w hSw; obtain ⟨s1, s2, s3⟩ := HS20.out w hSw; go_simp; try with_reducible rfl
       try simp only [Act.put, tdy]
      refine tkg 10 (.agg kk) rfl (by rw [← HKL.out]; exact yieldsIf_load_mid (by rfl) 29 _ rfl gl (pl * 34) rfl kl _ (fun w hSw => HMID.out w hSw) Tryz.underlying29 rfl HDL2.out) ?_
      try simp only [Act.put, tdy]
      refine tkp (v := ?_) 11 rfl ?_ ?_; rotate_left 1
      ·intro w hSw; have hq := HNE w; go_simp; try with_reducible rfl
      try simp only [Act.put, tdy]
      iterate 8
       refine tkn (v := ?_) 12 rfl ?_ ?_; rotate_left 1
       ·intro w hSw; obtain ⟨s1, s2, s3⟩ := HS20.out w hSw; go_simp; try with_reducible rfl
       try simp only [Act.put, tdy]
      refine wpAnyH_ready (rs := [20]) (by kernel_rfl) (by simp) ?_
      refine AllReadyH.cons rfl (fun K hK => ?_) .nil
      go_simp
      refine (HSM.out _ hHeld).mono ?_
      rintro e w5 ⟨rfl, hk5⟩
      have HK5 : Hid (Kept (fun _ => False) U w5) := hHeld.trans hk5
      clear hk5 HSM
      refine hK.out _ _ HK5.out (fun hHeld => ?_)
      clear hK K
      try simp only [Act.put, tdy]
      iterate 2
       refine tkn (v := ?_) 21 rfl ?_ ?_; rotate_left 1
       ·intro w hSw; obtain ⟨s1, s2, s3⟩ := HS20.out w hSw; go_simp; try with_reducible rfl
       try simp only [Act.put, tdy]
      refine wpAnyH_done (by kernel_rfl) ?_ _
      clear hHeld HBX HMID HNE HS20 HKL HDS HDL2
      gi_wp2_with fail
      have HBB : Hid (Bb w5 w5 gb xl) := ⟨Kept.refl _ _, fun hn => by
       obtain ⟨_, cur, h1, h2⟩ := HGO.out hn
       exact ⟨cur, (HK5.out.block _ (heap_lt h1) (fun f => f)).trans h1, h2⟩⟩
      gi_loopw [20] (fun i w2 => ∃ j2 : Nat, j2 ≤ xl ∧ i = .int .i64 j2 ∧ Hid (Bb w5 w2 gb xl)) (fun i _ => xl - (intOf i).toNat)
      case atStart => exact ⟨0, by omega, rfl, HBB⟩
      case round =>
       clear HBB
       obtain ⟨j2, hj2, rfl, HB2⟩ := hrel
       by_cases hlt2 : j2 < xl
       ·have hn0 : xl ≠ 0 := by omega
        obtain ⟨hax, _⟩ := HGO.out hn0
        obtain ⟨cur, hcb, hcy⟩ := HB2.out.rw hn0
        obtain ⟨y, hy⟩ := hcy j2 hlt2
        subst hax
        have c2 : wr.cell? ⟨gb, j2, none⟩ = some (.int .u8 y) := (cell_block _ _ _ _ _ _ hcb).trans hy
        have f2 : wr.frozen? ⟨gb, j2, none⟩ = false := frozen_block _ _ _ _ _ hcb
        have hj2I : (j2 : Int) < (xl : Int) := by omega
        clear hcb hcy hy hn0
        gi_wp2
        go_roundw
        case rel => exact ⟨j2 + 1, by omega, by go_num, HB2.out.set j2 _ hlt2⟩
        case measure => simp [intOf]; omega
       ·have hj2I : ¬ (j2 : Int) < (xl : Int) := by omega
        have HK2U : Hid (Kept (fun q => q = gb) U wr) := (HK5.out.mono (fun _ _ f => f.elim)).trans HB2.out.kp
        have HL2R : Hid (∃ r, wr.heap[l]? = some (.loop r)) := by
         obtain ⟨r2, h5⟩ := HLR.out
         exact ⟨r2, (HK2U.out.block l (heap_lt h5) (fun e => hgl' l r2 h5 e)).trans h5⟩
        have HKZ2 : Hid (KeepsB Z w9 wr) := HKZU.out.trans ⟨HK2U.out.size, fun q hq hl => HK2U.out.block q hl (fun e => by have := HZlt.out q hq; omega)⟩
        have HKW2 : Hid (KeepsB (fun q => wz.heap.size ≤ q ∧ q < w9.heap.size) w9 wr) := HKU.out.trans ⟨HK2U.out.size, fun q hq hl => HK2U.out.block q hl (fun e => by have := HKW.out.size; omega)⟩
        have c15w : wr.cell? ⟨w8.heap.size, 0, none⟩ = some (.func (.func 29) #[] #[.pointer (some ⟨B0, 0, none⟩)]) := HKW2.out.cell ⟨HSZ.out.2.2.2.1, HSZ.out.2.2.2.2.1⟩ ((cell_block _ _ 0 _ _ _ HB15.out).trans rfl)
        have c15a : (wr.alloc (.cells #[.int .i64 0] 3)).cell? ⟨w8.heap.size, 0, none⟩ = some (.func (.func 29) #[] #[.pointer (some ⟨B0, 0, none⟩)]) := ((Kept.refl (fun _ => False) wr).alloc _).cell c15w (fun f => f)
        have HB21 : Hid ((wr.alloc (.cells #[.int .i64 0] 3)).heap[wr.heap.size]? = some (.cells #[.int .i64 0] 3 (0, 0))) := alloc_new _ _ rfl
        have HK7w : Hid (Kept (fun _ => False) wr (wr.alloc (.cells #[.int .i64 0] 3))) := (Kept.refl _ wr).alloc _
        have hs7w : (wr.alloc (.cells #[.int .i64 0] 3)).heap.size = wr.heap.size + 1 := by simp
        gi_wp2_with fail
        generalize wr.alloc (.cells #[.int .i64 0] 3) = w7 at *
        clear c15a c15w
        obtain ⟨r0, hl00'⟩ := HL2R.out
        have hl00 : w7.heap[l]? = some (.loop r0) := (HK7w.out.block l (heap_lt hl00') (fun f => f)).trans hl00'
        have HKZ7 : Hid (KeepsB Z w9 w7) := HKZ2.out.trans (KeepsB.of_kept HK7w.out)
        have hwrA : A'.heap.size ≤ wr.heap.size := by have := HK2U.out.size; omega
        have hw9 : w9.heap.size ≤ wr.heap.size := by have := HKZ2.out.size; omega
        clear hl00'
        apply two_ways (fun wq : World => Kept (fun q => q = wr.heap.size) w7 wq)
        ·intro hfin
         refine range_seqMi (by omega) (gf := 29) (lb := #[.pointer (some ⟨B0, 0, none⟩)]) rfl (enters_of Tryz.func29 (by kernel_rfl) rfl) Cb.loop Cb.kept (HSN.out.seq (fun q => q = wr.heap.size) (fun q => q = wr.heap.size) (fun q hz e => by have := HZlt.out q hz; omega) (fun q hz e => by have := HZlt.out q hz; omega) 9 (by omega)) (fun q hq => by rcases hq with hq | hq <;> omega) HKZ7.out (fun x => by rfl)
          (fun pre2 Wq => Wq.heap[wr.heap.size]? = some (.cells #[.int .i64 (pre2.length : Int)] 3 (0, 0)) ∧ pre2.length ≤ 2 ∧ Kept (fun q => q = wr.heap.size) w7 Wq) (fun pre2 A C row h hg hr => by
           have hkk : Kept (fun q => row = some q) A C := ⟨hg.os, hg.tape, hg.output, hg.size, fun q hq hn => hg.block q hq (fun e => hn e.symm)⟩
           exact ⟨(hkk.block _ (heap_lt h.1) (fun e => by have := (hr _ e).1; omega)).trans h.1, h.2.1, h.2.2.step hkk (fun q hq e => by have := (hr q e).1; omega)⟩)
          (fun Wq => Kept (fun q => q = wr.heap.size) w7 Wq) (fun _ A C row h hg hr => by
           have hkk : Kept (fun q => row = some q) A C := ⟨hg.os, hg.tape, hg.output, hg.size, fun q hq hn => hg.block q hq (fun e => hn e.symm)⟩
           exact h.step hkk (fun q hq e => by have := (hr q e).1; omega)) (.exit 8) (.exit 8) (.inr ⟨8, rfl, rfl⟩) ⟨HB21.out, by simp, Kept.refl _ _⟩ hl00 ?_ ?_ ?_
         ·skip
          intro l2 pre x A2 W2 K2 hi2 hAW2 hcx2 hl12 hl22 hlen hbg2 hk2
          have hkl := (HSN.out.key x.1.1.1 x.1.1.2).1
          have hds := size28_of x.1.1.1.k hkl
          have honed := oneCells .u8 x.1.1.1.k
          have HOD : Hid (32 = (x.1.1.1.k.map (Value.int .u8)).toArray.size) := by show 32 = _; simp [hkl]
          unfold dv
          gi_wp2_with (refine inList_store_row rfl 29 _ _ rfl W2.heap.size (x.1.1.1.k.map (Value.int .u8)).toArray rfl rfl 29 _ (alloc_new _ _ rfl) hds HOD.out honed ?_; rw [setRow_new _ _ _ _ rfl])
          intro A3 U2 hiA2 hAU2 hc hsz2 hB hlr2
          have HKU2 : Hid (KeepsB (fun q => wz.heap.size ≤ q ∧ q < w9.heap.size) w9 U2) := by
           have s3 := hiA2.2.2.size
           have sU := hAU2.size
           have s9 := HKW2.out.size
           refine ⟨by omega, fun q hq hl => ?_⟩
           rw [hAU2.block q (by omega) (fun f => f), hiA2.2.2.block q (by omega) (fun e => by omega), HK7w.out.block q (by omega) (fun f => f), HKW2.out.same q hq hl]
          have cN : U2.cell? ⟨wr.heap.size, 0, none⟩ = some (.int .i64 (pre.length : Int)) := hAU2.cell ((cell_block _ _ 0 _ _ _ hiA2.1).trans rfl) (fun f => f)
          have HB21U : Hid (U2.heap[wr.heap.size]? = some (.cells #[.int .i64 (pre.length : Int)] 3 (0, 0))) := (hAU2.block _ (heap_lt hiA2.1) (fun f => f)).trans hiA2.1
          have HK7U : Hid (Kept (fun q => q = wr.heap.size) w7 U2) := hiA2.2.2.trans (hAU2.mono (fun _ _ f => f.elim))
          have hp2 := hiA2.2.1
          obtain ⟨gl2, wc3, bo, bc, ax, cx, hwv, hx, hra, hsm, hxl⟩ := sees HSN.out HKU2.out hc
          obtain ⟨hwo, hll, hcc⟩ : gl = gl2 ∧ l'.length = ρ.l.length ∧ wcap = wc3 := by
           injection hwv with a b c
           injection a with a
           injection a with a _ _
           exact ⟨a, b, c⟩
          subst hwo
          have HSM := hid_of hsm
          have HNE : ∀ (W' : World), (binOp .neq 29 (.agg (x.1.1.1.k.map (Value.int .u8)).toArray) (.agg (x.1.1.1.k.map (Value.int .u8)).toArray)).run Tryz.prog W' = .ok (.bool false) W' := fun W' => by
           have := run_neq32 W' 29 x.1.1.1.k x.1.1.1.k Tryz.underlying29 hkl hkl
           rw [decide_eq_true rfl] at this
           exact this
          have HS20 : Hid (∀ w', Kept (fun _ => False) U2 w' → w'.cell? ⟨wr.heap.size, 0, none⟩ = some (.int .i64 (pre.length : Int)) ∧ w'.cell? ⟨w6.heap.size, 0, none⟩ = some (.slice (some ⟨gl, 0, none⟩) l'.length wcap) ∧ w'.cell? ⟨gl, pre.length * 34 + 32, none⟩ = some (.slice bo x.1.1.1.xs.length bc)) := fun w' hw =>
           ⟨hw.cell cN (fun f => f), hw.cell (HKU2.out.cell ⟨HSZ.out.2.1, HSZ.out.2.2.1⟩ ((cell_block _ _ 0 _ _ _ HB14'.out).trans rfl)) (fun f => f), (hra w' hw).2⟩
          have HMID : Hid (∀ w', Kept (fun _ => False) U2 w' → w'.rangeAt gl (pre.length * 34) (x.1.1.1.k.map (Value.int .u8))) := fun w' hw => (hra w' hw).1
          have HBX : Hid (∀ w', Kept (fun _ => False) U2 w' → w'.heap[W2.heap.size]? = some (.cells (x.1.1.1.k.map (Value.int .u8)).toArray 29 (0, 0))) := fun w' hw => (hw.block _ (heap_lt hB) (fun f => f)).trans hB
          have HDS := hid_of (size29_arr x.1.1.1.k hkl)
          have HDL2 := hid_of (size29_lst x.1.1.1.k hkl)
          have hpl : pre.length < l'.length := by rw [hll, ← HSN.out.len]; exact hlen
          have hplm : l'.length ≤ 900000 := by rw [hll]; exact HSN.out.few
          have hplI : (pre.length : Int) < (l'.length : Int) := by omega
          have HPG : Hid (¬ ((l'.length : Int) ≤ (pre.length : Int))) := by show ¬ _; omega
          have hNI : (pre ++ [x]).length = pre.length + 1 := by simp
          rw [hx, hNI]
          clear hsm hra hwv hi2 hcx2 hc hNI hx hkl hds honed HOD hiA2 hlr2 cN hll hcc hsz2 hlen hAW2 hB hAU2 hxl
          generalize pre.length = pl2 at *
          generalize x.1.1.1.xs.length = xl2 at *
          generalize x.1.1.1.k.map (Value.int .u8) = kl2 at *
          generalize hkkE : kl2.toArray = kk2 at *
          have HKL := hid_of hkkE
          clear hkkE
          gi_wp2
          refine wpIn_region_held (IsWide.in_ l2) (S := fun w' => Kept (fun _ => False) U2 w') (by kernel_rfl) (by kernel_rfl) (by rintro ⟨_, _, h9⟩; rcases h9 with h9 | h9 <;> exact absurd h9.1 (by simp)) ((Kept.refl _ _).drew) (fun hHeld => ?_)
          iterate 3
           refine tkn (v := ?_) 0 rfl ?_ ?_; rotate_left 1
           ·intro w hSw; obtain ⟨s1, s2, s3⟩ := HS20.out w hSw; go_simp; try with_reducible rfl
           try simp only [Act.put, tdy]
          refine tkp (v := .bool false) 3 rfl ?_ ?_
          ·intro w hSw
           obtain ⟨s1, s2, s3⟩ := HS20.out w hSw
           go_simp
           all_goals (try omega)
          try simp only [Act.put, tdy]
          refine tkp (v := ?_) 4 rfl ?_ ?_; rotate_left 1
          ·intro w hSw; obtain ⟨s1, s2, s3⟩ := HS20.out w hSw; go_simp; try with_reducible rfl
          try simp only [Act.put, tdy]
          refine tkg 5 (.agg kk2) rfl (yields_row (by rfl) 29 _ rfl W2.heap.size rfl _ _ _ _ (fun w hSw => HBX.out w hSw) Tryz.underlying29 rfl HDS.out) ?_
          try simp only [Act.put, tdy]
          iterate 4
           refine tkn (v := ?_) 6 rfl ?_ ?_; rotate_left 1
           ·intro w hSw; obtain ⟨s1, s2, s3⟩ := HS20.out w hSw; go_simp; try with_reducible rfl
           try simp only [Act.put, tdy]
          refine tkg 10 (.agg kk2) rfl (by rw [← HKL.out]; exact yieldsIf_load_mid (by rfl) 29 _ rfl gl (pl2 * 34) rfl kl2 _ (fun w hSw => HMID.out w hSw) Tryz.underlying29 rfl HDL2.out) ?_
          try simp only [Act.put, tdy]
          refine tkp (v := ?_) 11 rfl ?_ ?_; rotate_left 1
          ·intro w hSw; have hq := HNE w; go_simp; try with_reducible rfl
          try simp only [Act.put, tdy]
          iterate 8
           refine tkn (v := ?_) 12 rfl ?_ ?_; rotate_left 1
           ·intro w hSw; obtain ⟨s1, s2, s3⟩ := HS20.out w hSw; go_simp; try with_reducible rfl
           try simp only [Act.put, tdy]
          refine wpAnyH_ready (rs := [20]) (by kernel_rfl) (by simp) ?_
          refine AllReadyH.cons rfl (fun K hK => ?_) .nil
          go_simp
          refine (HSM.out _ hHeld).mono ?_
          rintro e w5i ⟨rfl, hk5⟩
          have HK5i : Hid (Kept (fun _ => False) U2 w5i) := hHeld.trans hk5
          clear hk5 HSM
          refine hK.out _ _ HK5i.out (fun hHeld => ?_)
          clear hK K
          try simp only [Act.put, tdy]
          iterate 2
           refine tkn (v := ?_) 21 rfl ?_ ?_; rotate_left 1
           ·intro w hSw; obtain ⟨s1, s2, s3⟩ := HS20.out w hSw; go_simp; try with_reducible rfl
           try simp only [Act.put, tdy]
          refine wpAnyH_done (by kernel_rfl) ?_ _
          clear hHeld HBX HMID HNE HS20 HKL HDS HDL2
          have hb5 : w5i.heap[wr.heap.size]? = some (.cells #[.int .i64 (pl2 : Int)] 3 (0, 0)) := (HK5i.out.block _ (heap_lt HB21U.out) (fun f => f)).trans HB21U.out
          have c5 : w5i.cell? ⟨wr.heap.size, 0, none⟩ = some (.int .i64 (pl2 : Int)) := (cell_block _ _ 0 _ _ _ hb5).trans rfl
          have f5 : w5i.frozen? ⟨wr.heap.size, 0, none⟩ = false := frozen_block _ _ 0 _ _ hb5
          have wr1 : IntKind.i64.wrap ((pl2 : Int) + 1) = (pl2 : Int) + 1 := by rw [IntKind.wrap_i64]; omega
          have HS5 : Hid (Kept (fun q => q = wr.heap.size) w5i (w5i.setCell ⟨wr.heap.size, 0, none⟩ (.int .i64 ((pl2 : Int) + 1)))) := Kept.setCell (S := fun q => q = wr.heap.size) (p := ⟨wr.heap.size, 0, none⟩) (Kept.refl _ _) (.inr rfl) _
          have HF5 : Hid ((w5i.setCell ⟨wr.heap.size, 0, none⟩ (.int .i64 ((pl2 : Int) + 1))).heap[wr.heap.size]? = some (.cells #[.int .i64 ((pl2 : Int) + 1)] 3 (0, 0))) := set_block w5i _ _ _ _ _ hb5 _
          have c5s : (w5i.setCell ⟨wr.heap.size, 0, none⟩ (.int .i64 ((pl2 : Int) + 1))).cell? ⟨wr.heap.size, 0, none⟩ = some (.int .i64 ((pl2 : Int) + 1)) := (cell_block _ _ 0 _ _ _ HF5.out).trans rfl
          have HKF : Hid (Kept (fun q => q = wr.heap.size) U2 (w5i.setCell ⟨wr.heap.size, 0, none⟩ (.int .i64 ((pl2 : Int) + 1)))) := (HK5i.out.mono (fun _ _ f => f.elim)).trans HS5.out
          clear hb5
          by_cases h22 : pl2 = 2
          ·have hgI : (2 : Int) < (pl2 : Int) + 1 := by omega
           clear h22
           gi_wp2
           first | exact .inr ⟨rfl, HKF.out, HK7U.out.trans HKF.out⟩ | exact .inr ⟨HKF.out, HK7U.out.trans HKF.out⟩ | exact ⟨HKF.out, HK7U.out.trans HKF.out⟩
          ·have hgI : ¬ (2 : Int) < (pl2 : Int) + 1 := by omega
           gi_wp2
           have hcst : (((pl2 + 1 : Nat)) : Int) = (pl2 : Int) + 1 := by omega
           have HFN : Hid ((w5i.setCell ⟨wr.heap.size, 0, none⟩ (.int .i64 ((pl2 : Int) + 1))).heap[wr.heap.size]? = some (.cells #[.int .i64 ((pl2 + 1 : Nat) : Int)] 3 (0, 0))) := by rw [hcst]; exact HF5.out
           first | exact .inl ⟨rfl, HKF.out, HFN.out, by omega, HK7U.out.trans HKF.out⟩ | exact .inl ⟨HKF.out, HFN.out, by omega, HK7U.out.trans HKF.out⟩ | exact ⟨HKF.out, HFN.out, by omega, HK7U.out.trans HKF.out⟩
         ·skip
          rintro xs2 wq hS2 ⟨_, _, h8⟩
          exact hfin wq h8
         ·skip
          rintro wq h8
          refine wpIn_exit ?_
          exact hfin wq h8
        ·intro wq h8
         have HA8 := hid_of (HHI.out.through (HAU.out.trans HK5.out) hgb HB2.out.kp HK7w.out hs7w h8 (by omega) (by omega))
         have HKQ : Hid (Kept (fun q => q = gb ∨ q = wr.heap.size) U wq) := ((HK2U.out.mono (fun _ _ e => .inl e)).trans (HK7w.out.mono (fun _ _ f => f.elim))).trans (h8.mono (fun _ _ e => .inr e))
         have HWQ : Hid (Kept (fun _ => False) W wq) := HW11.out.step HA8.out.kp (fun i hi e => e (.inl (HP2.out.1 i (by omega))))
         have HS34 : Hid (∀ w', Kept (fun q => ¬ (P2 q ∨ q = b16 ∨ q ∈ Ds ∨ q = w.heap.size ∨ (w11.heap.size ≤ q ∧ q < w11.heap.size + 5))) wq w' → w'.cell? ⟨b16, 0, none⟩ = some (.int .i64 (tn : Int)) ∧ w'.cell? ⟨W.heap.size, 0, none⟩ = some (.slice mo ms.length mc) ∧ w'.cell? ⟨W.heap.size + 1, 0, none⟩ = some (.int .i64 stop) ∧ w'.cell? ⟨b11, 0, none⟩ = some (.pointer (some ⟨g, 0, none⟩)) ∧ w'.cell? ⟨w.heap.size, 0, none⟩ = some (.int .i64 (pl : Int))) := fun w' hw => by
          obtain ⟨s1, s2, s3, s4⟩ := HC8.out w' (HA8.out.kp.step hw (fun q hq e h9 => e (by rcases h9 with h9 | h9 | h9; exact .inl h9; exact .inr (.inl h9); exact .inr (.inr (.inl h9)))))
          exact ⟨s1, s2, s3, s4, hw.cell ((cell_block _ _ 0 _ _ _ HA8.out.bx).trans rfl) (fun e => e (.inr (.inr (.inr (.inl rfl)))))⟩
         have wr1 : IntKind.i64.wrap ((pl : Int) + 1) = (pl : Int) + 1 := by rw [IntKind.wrap_i64]; omega
         clear h8
         by_cases ht1 : tn = 1
         ·as_aux_lemma =>
           subst ht1
           gi_wp2
           refine wpIn_region_held (IsWide.in_ l) (S := fun w' => Kept (fun q => ¬ (P2 q ∨ q = b16 ∨ q ∈ Ds ∨ q = w.heap.size ∨ (w11.heap.size ≤ q ∧ q < w11.heap.size + 5))) wq w') (by kernel_rfl) (by kernel_rfl) (by rintro ⟨_, _, h9⟩; rcases h9 with h9 | h9 <;> exact absurd h9.1 (by simp)) ((Kept.refl _ _).drew) (fun hHeld => ?_)
           iterate 3
            refine tkn (v := ?_) 0 rfl ?_ ?_; rotate_left 1
            ·intro w hSw; obtain ⟨s1, s2, s3, s4, s5⟩ := HS34.out w hSw; go_simp; try with_reducible rfl
            try simp only [Act.put, tdy]
           iterate 4
            refine tkm 3 rfl ?_
            try simp only [Act.put, tdy]
           iterate 2
            refine tkn (v := ?_) 7 rfl ?_ ?_; rotate_left 1
            ·intro w hSw; obtain ⟨s1, s2, s3, s4, s5⟩ := HS34.out w hSw; go_simp; try with_reducible rfl
            try simp only [Act.put, tdy]
           iterate 2
            refine tkm 9 rfl ?_
            try simp only [Act.put, tdy]
           iterate 2
            refine tkn (v := ?_) 11 rfl ?_ ?_; rotate_left 1
            ·intro w hSw; obtain ⟨s1, s2, s3, s4, s5⟩ := HS34.out w hSw; go_simp; try with_reducible rfl
            try simp only [Act.put, tdy]
           iterate 6
            refine tkm 13 rfl ?_
            try simp only [Act.put, tdy]
           iterate 2
            refine tkn (v := ?_) 19 rfl ?_ ?_; rotate_left 1
            ·intro w hSw; obtain ⟨s1, s2, s3, s4, s5⟩ := HS34.out w hSw; go_simp; try with_reducible rfl
            try simp only [Act.put, tdy]
           iterate 5
            refine tkm 21 rfl ?_
            try simp only [Act.put, tdy]
           refine wpAnyH_ready (rs := [26]) (by kernel_rfl) (by simp) ?_
           refine AllReadyH.cons rfl (fun K hK => ?_) .nil
           go_simp
           refine hK.out _ _ (by assumption) (fun hHeld => ?_)
           clear hK K
           try simp only [Act.put, tdy]
           refine tku 27 rfl ?_
           try simp only [Act.put, tdy]
           refine tkp (v := ?_) 28 rfl ?_ ?_; rotate_left 1
           ·intro w hSw; obtain ⟨s1, s2, s3, s4, s5⟩ := HS34.out w hSw; go_simp; try with_reducible rfl
           try simp only [Act.put, tdy]
           refine wpAnyH_done (by kernel_rfl) ?_ _
           have HKd : Hid (Kept (fun _ => False) wq wq.drew) := (Kept.refl _ wq).drew
           have HALX : Hid (AlS (fun q => (P2 q ∨ q = b16 ∨ q ∈ Ds ∨ q = w.heap.size ∨ (w11.heap.size ≤ q ∧ q < w11.heap.size + 5))) X2 (W.heap.size + 3) wq.drew k (600 + 80 * 1 + 2 * min (pl + 1) 40) g r) := (HA8.out.al.grow HKd.out).more (by omega)
           have HKX : Hid (Kept (fun q => ¬ (P2 q ∨ q = b16 ∨ q ∈ Ds ∨ q = w.heap.size ∨ (w11.heap.size ≤ q ∧ q < w11.heap.size + 5))) wq wq.drew) := HKd.out.mono (fun _ _ f => f.elim)
           clear HKd hHeld
           generalize wq.drew = wx at *
           have HNX0 := hid_of (HA8.out.next HALX.out HKX.out (HX2.out _ hwl) hw0 HP17.out)
           have hcst : ((pl + 1 : Nat) : Int) = (pl : Int) + 1 := by omega
           have HNX : Hid (Al3 P2 X2 (W.heap.size + 3) w11 (wx.setCell ⟨w.heap.size, 0, none⟩ (.int .i64 ((pl : Int) + 1))) k g r (600 + 80 * 1) b16 w.heap.size Ds (pl + 1)) := by
            have h5 := HNX0.out
            rw [hcst] at h5
            exact h5
           have HKY : Hid (Kept (fun q => ¬ Z q ∧ (q < w11.heap.size ∨ w11.heap.size + 5 ≤ q)) U (wx.setCell ⟨w.heap.size, 0, none⟩ (.int .i64 ((pl : Int) + 1)))) := by
            have hsc : Kept (fun q => q = w.heap.size) wx (wx.setCell ⟨w.heap.size, 0, none⟩ (.int .i64 ((pl : Int) + 1))) := Kept.setCell (S := fun q => q = w.heap.size) (p := ⟨w.heap.size, 0, none⟩) (Kept.refl _ _) (.inr rfl) _
            have h5 : Kept (fun q => q = gb ∨ q = wr.heap.size ∨ ¬ (P2 q ∨ q = b16 ∨ q ∈ Ds ∨ q = w.heap.size ∨ (w11.heap.size ≤ q ∧ q < w11.heap.size + 5)) ∨ q = w.heap.size) U (wx.setCell ⟨w.heap.size, 0, none⟩ (.int .i64 ((pl : Int) + 1))) := ((HKQ.out.mono (fun _ _ e => by rcases e with e | e; exact .inl e; exact .inr (.inl e))).trans (HKX.out.mono (fun _ _ e => .inr (.inr (.inl e))))).trans (hsc.mono (fun _ _ e => .inr (.inr (.inr e))))
            refine h5.mono (fun q hq e => ?_)
            have hwUr := HK2U.out.size
            rcases e with e | e | e | e
            ·exact ⟨fun hz => by have := HZlt.out q hz; omega, by omega⟩
            ·omega
            ·exact ⟨fun hz => e (.inl (HZL.out q hz)), by
              have : ¬ (w11.heap.size ≤ q ∧ q < w11.heap.size + 5) := fun h => e (.inr (.inr (.inr (.inr h))))
              omega⟩
            ·exact ⟨fun hz => by have := HZlt.out q hz; have := HA2.out.kp.size; omega, by omega⟩
           obtain ⟨n1, n2, n3, n4⟩ := HC8.out _ HNX.out.kp
           have n5 : (wx.setCell ⟨w.heap.size, 0, none⟩ (.int .i64 ((pl : Int) + 1))).cell? ⟨w.heap.size, 0, none⟩ = some (.int .i64 ((pl : Int) + 1)) := by
            have h5 := HNX.out.bx
            rw [hcst] at h5
            exact (cell_block _ _ 0 _ _ _ h5).trans rfl
           have bx5 := (HKX.out.block _ (heap_lt HA8.out.bx) (fun e => e (.inr (.inr (.inr (.inl rfl)))))).trans HA8.out.bx
           have cx17 : wx.cell? ⟨w.heap.size, 0, none⟩ = some (.int .i64 (pl : Int)) := (cell_block _ _ 0 _ _ _ bx5).trans rfl
           have fx17 : wx.frozen? ⟨w.heap.size, 0, none⟩ = false := frozen_block _ _ 0 _ _ bx5
           clear bx5 HNX0 hcst HKX HALX
           gi_wp2
           (try rw [← hs11]); first | exact .inl ⟨rfl, HKY.out, HNX.out⟩ | exact .inl ⟨HKY.out, HNX.out⟩ | exact ⟨HKY.out, HNX.out⟩
         ·obtain rfl : tn = 0 := by omega
          clear ht1
          by_cases hpm : pl < ms.length
          ·have hpmI : (pl : Int) < (ms.length : Int) := by omega
           by_cases hp40 : pl < 40
           ·have hp40I : (pl : Int) < 40 := by omega
            obtain ⟨t, htj⟩ : ∃ t, ms[pl]? = some t := ⟨_, List.getElem?_eq_getElem hpm⟩
            obtain ⟨mo2, mc2, hvm, _, hall0⟩ := id HM.out
            injection hvm with hv1 hv2 hv3
            subst hv1 hv3
            obtain ⟨hOk, gg, o, hao, hr⟩ := hall0 pl t htj
            subst hao
            have hlow := Stp.low hOk
            have hi31 : (Tryz.prog.info? 31).map (·.size) = some t.cells.length := by rw [Stp.clen hOk.dl]; exact size31s
            have HR2 : Hid (∀ w', Kept (fun q => ¬ (P2 q ∨ q = b16 ∨ q ∈ Ds ∨ q = w.heap.size ∨ (w11.heap.size ≤ q ∧ q < w11.heap.size + 5))) wq w' → w'.rangeAt gg (o + pl * 37) t.cells) := fun w' hw u x2 hx2 => by
             have hc := HWQ.out.cell (hr u x2 hx2) (fun f => f)
             have hlt := World.block_lt_of_cell? _ _ (hr u x2 hx2)
             exact hw.cell hc (fun e => e (.inl (HP2.out.1 _ (by have h9 : gg < W.heap.size := hlt; show gg < _; omega))))
            have HKD2 : Hid (∀ w', Kept (fun q => ¬ (P2 q ∨ q = b16 ∨ q ∈ Ds ∨ q = w.heap.size ∨ (w11.heap.size ≤ q ∧ q < w11.heap.size + 5))) wq w' → w'.cell? ⟨gg, o + pl * 37, none⟩ = some (.int .i64 t.kd)) := fun w' hw => HR2.out w' hw 0 _ rfl
            have HSTP : Hid (Calls Tryz.prog 6 #[.pointer (some ⟨g, 0, none⟩), .agg t.cells.toArray] wq.drew fun e w' => e = .returned (.bool true) ∧ AlS (fun q => (P2 q ∨ q = b16 ∨ q ∈ Ds ∨ q = w.heap.size ∨ (w11.heap.size ≤ q ∧ q < w11.heap.size + 5))) X2 (W.heap.size + 3) w' k (600 + 80 * 0 + 2 * min (pl + 1) 40) g r ∧ Kept (fun q => ¬ (P2 q ∨ q = b16 ∨ q ∈ Ds ∨ q = w.heap.size ∨ (w11.heap.size ≤ q ∧ q < w11.heap.size + 5))) wq.drew w') := by
             have hkd : Kept (fun _ => False) wq wq.drew := (Kept.refl _ wq).drew
             refine (HA8.out.grow hkd).step (fun q hq => ?_) (by omega) hp40 t (hOk.kept hlow (HWQ.out.trans hkd) (fun _ _ f => f)) ⟨fun h0 q hq => by have := hlow.1 h0 q hq; omega, fun h0 q hq => by have := hlow.2 h0 q hq; omega⟩
             have h5 := HA8.out.kp.size
             have h6 := hkd.size
             have h7 := HKQ.out.size
             rcases hq with hq | hq | hq | hq | hq
             ·have := HPR.out q (.inl hq); omega
             ·have := HPR.out q (.inr (.inl hq)); omega
             ·have := HPR.out q (.inr (.inr (.inl hq))); omega
             ·have := HPR.out q (.inr (.inr (.inr hq))); omega
             ·omega
            clear hall0 hr hOk htj hlow hv2
            by_cases hkd11 : t.kd = 11
            ·as_aux_lemma =>
              clear HSTP HR2
              rw [hkd11] at HKD2
              clear hkd11
              gi_wp2
              refine wpIn_region_held (IsWide.in_ l) (S := fun w' => Kept (fun q => ¬ (P2 q ∨ q = b16 ∨ q ∈ Ds ∨ q = w.heap.size ∨ (w11.heap.size ≤ q ∧ q < w11.heap.size + 5))) wq w') (by kernel_rfl) (by kernel_rfl) (by rintro ⟨_, _, h9⟩; rcases h9 with h9 | h9 <;> exact absurd h9.1 (by simp)) ((Kept.refl _ _).drew) (fun hHeld => ?_)
              iterate 10
               refine tkn (v := ?_) 0 rfl ?_ ?_; rotate_left 1
               ·intro w hSw; obtain ⟨s1, s2, s3, s4, s5⟩ := HS34.out w hSw; have s6 := HKD2.out w hSw; go_simp; try with_reducible rfl
               try simp only [Act.put, tdy]
              refine tkp (v := .bool true) 10 rfl ?_ ?_
              ·intro w hSw
               obtain ⟨s1, s2, s3, s4, s5⟩ := HS34.out w hSw
               have s6 := HKD2.out w hSw
               go_simp
               all_goals (try omega)
              try simp only [Act.put, tdy]
              iterate 10
               refine tkn (v := ?_) 11 rfl ?_ ?_; rotate_left 1
               ·intro w hSw; obtain ⟨s1, s2, s3, s4, s5⟩ := HS34.out w hSw; have s6 := HKD2.out w hSw; go_simp; try with_reducible rfl
               try simp only [Act.put, tdy]
              iterate 5
               refine tkm 21 rfl ?_
               try simp only [Act.put, tdy]
              refine wpAnyH_ready (rs := [26]) (by kernel_rfl) (by simp) ?_
              refine AllReadyH.cons rfl (fun K hK => ?_) .nil
              go_simp
              refine hK.out _ _ (by assumption) (fun hHeld => ?_)
              clear hK K
              try simp only [Act.put, tdy]
              refine tku 27 rfl ?_
              try simp only [Act.put, tdy]
              refine tkp (v := ?_) 28 rfl ?_ ?_; rotate_left 1
              ·intro w hSw; obtain ⟨s1, s2, s3, s4, s5⟩ := HS34.out w hSw; have s6 := HKD2.out w hSw; go_simp; try with_reducible rfl
              try simp only [Act.put, tdy]
              refine wpAnyH_done (by kernel_rfl) ?_ _
              have HKd : Hid (Kept (fun _ => False) wq wq.drew) := (Kept.refl _ wq).drew
              have HALX : Hid (AlS (fun q => (P2 q ∨ q = b16 ∨ q ∈ Ds ∨ q = w.heap.size ∨ (w11.heap.size ≤ q ∧ q < w11.heap.size + 5))) X2 (W.heap.size + 3) wq.drew k (600 + 80 * 0 + 2 * min (pl + 1) 40) g r) := (HA8.out.al.grow HKd.out).more (by omega)
              have HKX : Hid (Kept (fun q => ¬ (P2 q ∨ q = b16 ∨ q ∈ Ds ∨ q = w.heap.size ∨ (w11.heap.size ≤ q ∧ q < w11.heap.size + 5))) wq wq.drew) := HKd.out.mono (fun _ _ f => f.elim)
              clear HKd hHeld
              generalize wq.drew = wx at *
              have HNX0 := hid_of (HA8.out.next HALX.out HKX.out (HX2.out _ hwl) hw0 HP17.out)
              have hcst : ((pl + 1 : Nat) : Int) = (pl : Int) + 1 := by omega
              have HNX : Hid (Al3 P2 X2 (W.heap.size + 3) w11 (wx.setCell ⟨w.heap.size, 0, none⟩ (.int .i64 ((pl : Int) + 1))) k g r (600 + 80 * 0) b16 w.heap.size Ds (pl + 1)) := by
               have h5 := HNX0.out
               rw [hcst] at h5
               exact h5
              have HKY : Hid (Kept (fun q => ¬ Z q ∧ (q < w11.heap.size ∨ w11.heap.size + 5 ≤ q)) U (wx.setCell ⟨w.heap.size, 0, none⟩ (.int .i64 ((pl : Int) + 1)))) := by
               have hsc : Kept (fun q => q = w.heap.size) wx (wx.setCell ⟨w.heap.size, 0, none⟩ (.int .i64 ((pl : Int) + 1))) := Kept.setCell (S := fun q => q = w.heap.size) (p := ⟨w.heap.size, 0, none⟩) (Kept.refl _ _) (.inr rfl) _
               have h5 : Kept (fun q => q = gb ∨ q = wr.heap.size ∨ ¬ (P2 q ∨ q = b16 ∨ q ∈ Ds ∨ q = w.heap.size ∨ (w11.heap.size ≤ q ∧ q < w11.heap.size + 5)) ∨ q = w.heap.size) U (wx.setCell ⟨w.heap.size, 0, none⟩ (.int .i64 ((pl : Int) + 1))) := ((HKQ.out.mono (fun _ _ e => by rcases e with e | e; exact .inl e; exact .inr (.inl e))).trans (HKX.out.mono (fun _ _ e => .inr (.inr (.inl e))))).trans (hsc.mono (fun _ _ e => .inr (.inr (.inr e))))
               refine h5.mono (fun q hq e => ?_)
               have hwUr := HK2U.out.size
               rcases e with e | e | e | e
               ·exact ⟨fun hz => by have := HZlt.out q hz; omega, by omega⟩
               ·omega
               ·exact ⟨fun hz => e (.inl (HZL.out q hz)), by
                 have : ¬ (w11.heap.size ≤ q ∧ q < w11.heap.size + 5) := fun h => e (.inr (.inr (.inr (.inr h))))
                 omega⟩
               ·exact ⟨fun hz => by have := HZlt.out q hz; have := HA2.out.kp.size; omega, by omega⟩
              obtain ⟨n1, n2, n3, n4⟩ := HC8.out _ HNX.out.kp
              have n5 : (wx.setCell ⟨w.heap.size, 0, none⟩ (.int .i64 ((pl : Int) + 1))).cell? ⟨w.heap.size, 0, none⟩ = some (.int .i64 ((pl : Int) + 1)) := by
               have h5 := HNX.out.bx
               rw [hcst] at h5
               exact (cell_block _ _ 0 _ _ _ h5).trans rfl
              have bx5 := (HKX.out.block _ (heap_lt HA8.out.bx) (fun e => e (.inr (.inr (.inr (.inl rfl)))))).trans HA8.out.bx
              have cx17 : wx.cell? ⟨w.heap.size, 0, none⟩ = some (.int .i64 (pl : Int)) := (cell_block _ _ 0 _ _ _ bx5).trans rfl
              have fx17 : wx.frozen? ⟨w.heap.size, 0, none⟩ = false := frozen_block _ _ 0 _ _ bx5
              clear bx5 HNX0 hcst HKX HALX
              by_cases hst : (pl : Int) + 1 = stop
              ·subst hst
               gi_wp2
               (try rw [← hs11]); first | exact .inr ⟨rfl, HKY.out, rfl, _, HNX.out⟩ | exact .inr ⟨HKY.out, rfl, _, HNX.out⟩ | exact .inr ⟨HKY.out, _, HNX.out⟩ | exact ⟨HKY.out, rfl, _, HNX.out⟩ | exact ⟨HKY.out, _, HNX.out⟩
              ·gi_wp2
               (try rw [← hs11]); first | exact .inl ⟨rfl, HKY.out, HNX.out⟩ | exact .inl ⟨HKY.out, HNX.out⟩ | exact ⟨HKY.out, HNX.out⟩
            ·as_aux_lemma =>
              gi_wp2
              refine wpIn_region_held (IsWide.in_ l) (S := fun w' => Kept (fun q => ¬ (P2 q ∨ q = b16 ∨ q ∈ Ds ∨ q = w.heap.size ∨ (w11.heap.size ≤ q ∧ q < w11.heap.size + 5))) wq w') (by kernel_rfl) (by kernel_rfl) (by rintro ⟨_, _, h9⟩; rcases h9 with h9 | h9 <;> exact absurd h9.1 (by simp)) ((Kept.refl _ _).drew) (fun hHeld => ?_)
              iterate 10
               refine tkn (v := ?_) 0 rfl ?_ ?_; rotate_left 1
               ·intro w hSw; obtain ⟨s1, s2, s3, s4, s5⟩ := HS34.out w hSw; have s6 := HKD2.out w hSw; go_simp; try with_reducible rfl
               try simp only [Act.put, tdy]
              refine tkp (v := .bool true) 10 rfl ?_ ?_
              ·intro w hSw
               obtain ⟨s1, s2, s3, s4, s5⟩ := HS34.out w hSw
               have s6 := HKD2.out w hSw
               go_simp
               all_goals (try omega)
              try simp only [Act.put, tdy]
              iterate 7
               refine tkn (v := ?_) 11 rfl ?_ ?_; rotate_left 1
               ·intro w hSw; obtain ⟨s1, s2, s3, s4, s5⟩ := HS34.out w hSw; have s6 := HKD2.out w hSw; go_simp; try with_reducible rfl
               try simp only [Act.put, tdy]
              refine tkp (v := .bool true) 18 rfl ?_ ?_
              ·intro w hSw
               obtain ⟨s1, s2, s3, s4, s5⟩ := HS34.out w hSw
               have s6 := HKD2.out w hSw
               go_simp
               all_goals (first | omega | simp [hkd11])
              try simp only [Act.put, tdy]
              iterate 6
               refine tkn (v := ?_) 19 rfl ?_ ?_; rotate_left 1
               ·intro w hSw; obtain ⟨s1, s2, s3, s4, s5⟩ := HS34.out w hSw; have s6 := HKD2.out w hSw; go_simp; try with_reducible rfl
               try simp only [Act.put, tdy]
              refine tkg 25 (.agg (t.cells).toArray) rfl (yieldsIf_load_mid (by rfl) 31 _ rfl gg (o + pl * 37) rfl (t.cells) _ (fun w hSw => HR2.out w hSw) Tryz.underlying31 rfl hi31) ?_
              try simp only [Act.put, tdy]
              refine wpAnyH_ready (rs := [26]) (by kernel_rfl) (by simp) ?_
              refine AllReadyH.cons rfl (fun K hK => ?_) .nil
              go_simp
              refine (HSTP.out).mono ?_
              rintro e w5q ⟨rfl, hal5, hk5⟩
              have HAL5 := hid_of hal5
              have HKX : Hid (Kept (fun q => ¬ (P2 q ∨ q = b16 ∨ q ∈ Ds ∨ q = w.heap.size ∨ (w11.heap.size ≤ q ∧ q < w11.heap.size + 5))) wq w5q) := hHeld.trans hk5
              clear hal5 hk5 HSTP
              refine hK.out _ _ HKX.out (fun hHeld => ?_)
              clear hK K
              try simp only [Act.put, tdy]
              iterate 2
               refine tkn (v := ?_) 27 rfl ?_ ?_; rotate_left 1
               ·intro w hSw; obtain ⟨s1, s2, s3, s4, s5⟩ := HS34.out w hSw; have s6 := HKD2.out w hSw; go_simp; try with_reducible rfl
               try simp only [Act.put, tdy]
              refine wpAnyH_done (by kernel_rfl) ?_ _
              clear hHeld
              have HALX := HAL5
              clear HAL5
              have HNX0 := hid_of (HA8.out.next HALX.out HKX.out (HX2.out _ hwl) hw0 HP17.out)
              have hcst : ((pl + 1 : Nat) : Int) = (pl : Int) + 1 := by omega
              have HNX : Hid (Al3 P2 X2 (W.heap.size + 3) w11 (w5q.setCell ⟨w.heap.size, 0, none⟩ (.int .i64 ((pl : Int) + 1))) k g r (600 + 80 * 0) b16 w.heap.size Ds (pl + 1)) := by
               have h5 := HNX0.out
               rw [hcst] at h5
               exact h5
              have HKY : Hid (Kept (fun q => ¬ Z q ∧ (q < w11.heap.size ∨ w11.heap.size + 5 ≤ q)) U (w5q.setCell ⟨w.heap.size, 0, none⟩ (.int .i64 ((pl : Int) + 1)))) := by
               have hsc : Kept (fun q => q = w.heap.size) w5q (w5q.setCell ⟨w.heap.size, 0, none⟩ (.int .i64 ((pl : Int) + 1))) := Kept.setCell (S := fun q => q = w.heap.size) (p := ⟨w.heap.size, 0, none⟩) (Kept.refl _ _) (.inr rfl) _
               have h5 : Kept (fun q => q = gb ∨ q = wr.heap.size ∨ ¬ (P2 q ∨ q = b16 ∨ q ∈ Ds ∨ q = w.heap.size ∨ (w11.heap.size ≤ q ∧ q < w11.heap.size + 5)) ∨ q = w.heap.size) U (w5q.setCell ⟨w.heap.size, 0, none⟩ (.int .i64 ((pl : Int) + 1))) := ((HKQ.out.mono (fun _ _ e => by rcases e with e | e; exact .inl e; exact .inr (.inl e))).trans (HKX.out.mono (fun _ _ e => .inr (.inr (.inl e))))).trans (hsc.mono (fun _ _ e => .inr (.inr (.inr e))))
               refine h5.mono (fun q hq e => ?_)
               have hwUr := HK2U.out.size
               rcases e with e | e | e | e
               ·exact ⟨fun hz => by have := HZlt.out q hz; omega, by omega⟩
               ·omega
               ·exact ⟨fun hz => e (.inl (HZL.out q hz)), by
                 have : ¬ (w11.heap.size ≤ q ∧ q < w11.heap.size + 5) := fun h => e (.inr (.inr (.inr (.inr h))))
                 omega⟩
               ·exact ⟨fun hz => by have := HZlt.out q hz; have := HA2.out.kp.size; omega, by omega⟩
              obtain ⟨n1, n2, n3, n4⟩ := HC8.out _ HNX.out.kp
              have n5 : (w5q.setCell ⟨w.heap.size, 0, none⟩ (.int .i64 ((pl : Int) + 1))).cell? ⟨w.heap.size, 0, none⟩ = some (.int .i64 ((pl : Int) + 1)) := by
               have h5 := HNX.out.bx
               rw [hcst] at h5
               exact (cell_block _ _ 0 _ _ _ h5).trans rfl
              have bx5 := (HKX.out.block _ (heap_lt HA8.out.bx) (fun e => e (.inr (.inr (.inr (.inl rfl)))))).trans HA8.out.bx
              have cx17 : w5q.cell? ⟨w.heap.size, 0, none⟩ = some (.int .i64 (pl : Int)) := (cell_block _ _ 0 _ _ _ bx5).trans rfl
              have fx17 : w5q.frozen? ⟨w.heap.size, 0, none⟩ = false := frozen_block _ _ 0 _ _ bx5
              clear bx5 HNX0 hcst HKX HALX
              by_cases hst : (pl : Int) + 1 = stop
              ·subst hst
               gi_wp2
               (try rw [← hs11]); first | exact .inr ⟨rfl, HKY.out, rfl, _, HNX.out⟩ | exact .inr ⟨HKY.out, rfl, _, HNX.out⟩ | exact .inr ⟨HKY.out, _, HNX.out⟩ | exact ⟨HKY.out, rfl, _, HNX.out⟩ | exact ⟨HKY.out, _, HNX.out⟩
              ·gi_wp2
               (try rw [← hs11]); first | exact .inl ⟨rfl, HKY.out, HNX.out⟩ | exact .inl ⟨HKY.out, HNX.out⟩ | exact ⟨HKY.out, HNX.out⟩
           ·as_aux_lemma =>
             have hp40I : ¬ (pl : Int) < 40 := by omega
             gi_wp2
             refine wpIn_region_held (IsWide.in_ l) (S := fun w' => Kept (fun q => ¬ (P2 q ∨ q = b16 ∨ q ∈ Ds ∨ q = w.heap.size ∨ (w11.heap.size ≤ q ∧ q < w11.heap.size + 5))) wq w') (by kernel_rfl) (by kernel_rfl) (by rintro ⟨_, _, h9⟩; rcases h9 with h9 | h9 <;> exact absurd h9.1 (by simp)) ((Kept.refl _ _).drew) (fun hHeld => ?_)
             iterate 10
              refine tkn (v := ?_) 0 rfl ?_ ?_; rotate_left 1
              ·intro w hSw; obtain ⟨s1, s2, s3, s4, s5⟩ := HS34.out w hSw; go_simp; try with_reducible rfl
              try simp only [Act.put, tdy]
             refine tkp (v := .bool false) 10 rfl ?_ ?_
             ·intro w hSw
              obtain ⟨s1, s2, s3, s4, s5⟩ := HS34.out w hSw
              go_simp
              all_goals (try omega)
             try simp only [Act.put, tdy]
             iterate 2
              refine tkn (v := ?_) 11 rfl ?_ ?_; rotate_left 1
              ·intro w hSw; obtain ⟨s1, s2, s3, s4, s5⟩ := HS34.out w hSw; go_simp; try with_reducible rfl
              try simp only [Act.put, tdy]
             iterate 6
              refine tkm 13 rfl ?_
              try simp only [Act.put, tdy]
             iterate 2
              refine tkn (v := ?_) 19 rfl ?_ ?_; rotate_left 1
              ·intro w hSw; obtain ⟨s1, s2, s3, s4, s5⟩ := HS34.out w hSw; go_simp; try with_reducible rfl
              try simp only [Act.put, tdy]
             iterate 5
              refine tkm 21 rfl ?_
              try simp only [Act.put, tdy]
             refine wpAnyH_ready (rs := [26]) (by kernel_rfl) (by simp) ?_
             refine AllReadyH.cons rfl (fun K hK => ?_) .nil
             go_simp
             refine hK.out _ _ (by assumption) (fun hHeld => ?_)
             clear hK K
             try simp only [Act.put, tdy]
             refine tku 27 rfl ?_
             try simp only [Act.put, tdy]
             refine tkp (v := ?_) 28 rfl ?_ ?_; rotate_left 1
             ·intro w hSw; obtain ⟨s1, s2, s3, s4, s5⟩ := HS34.out w hSw; go_simp; try with_reducible rfl
             try simp only [Act.put, tdy]
             refine wpAnyH_done (by kernel_rfl) ?_ _
             have HKd : Hid (Kept (fun _ => False) wq wq.drew) := (Kept.refl _ wq).drew
             have HALX : Hid (AlS (fun q => (P2 q ∨ q = b16 ∨ q ∈ Ds ∨ q = w.heap.size ∨ (w11.heap.size ≤ q ∧ q < w11.heap.size + 5))) X2 (W.heap.size + 3) wq.drew k (600 + 80 * 0 + 2 * min (pl + 1) 40) g r) := (HA8.out.al.grow HKd.out).more (by omega)
             have HKX : Hid (Kept (fun q => ¬ (P2 q ∨ q = b16 ∨ q ∈ Ds ∨ q = w.heap.size ∨ (w11.heap.size ≤ q ∧ q < w11.heap.size + 5))) wq wq.drew) := HKd.out.mono (fun _ _ f => f.elim)
             clear HKd hHeld
             generalize wq.drew = wx at *
             have HNX0 := hid_of (HA8.out.next HALX.out HKX.out (HX2.out _ hwl) hw0 HP17.out)
             have hcst : ((pl + 1 : Nat) : Int) = (pl : Int) + 1 := by omega
             have HNX : Hid (Al3 P2 X2 (W.heap.size + 3) w11 (wx.setCell ⟨w.heap.size, 0, none⟩ (.int .i64 ((pl : Int) + 1))) k g r (600 + 80 * 0) b16 w.heap.size Ds (pl + 1)) := by
              have h5 := HNX0.out
              rw [hcst] at h5
              exact h5
             have HKY : Hid (Kept (fun q => ¬ Z q ∧ (q < w11.heap.size ∨ w11.heap.size + 5 ≤ q)) U (wx.setCell ⟨w.heap.size, 0, none⟩ (.int .i64 ((pl : Int) + 1)))) := by
              have hsc : Kept (fun q => q = w.heap.size) wx (wx.setCell ⟨w.heap.size, 0, none⟩ (.int .i64 ((pl : Int) + 1))) := Kept.setCell (S := fun q => q = w.heap.size) (p := ⟨w.heap.size, 0, none⟩) (Kept.refl _ _) (.inr rfl) _
              have h5 : Kept (fun q => q = gb ∨ q = wr.heap.size ∨ ¬ (P2 q ∨ q = b16 ∨ q ∈ Ds ∨ q = w.heap.size ∨ (w11.heap.size ≤ q ∧ q < w11.heap.size + 5)) ∨ q = w.heap.size) U (wx.setCell ⟨w.heap.size, 0, none⟩ (.int .i64 ((pl : Int) + 1))) := ((HKQ.out.mono (fun _ _ e => by rcases e with e | e; exact .inl e; exact .inr (.inl e))).trans (HKX.out.mono (fun _ _ e => .inr (.inr (.inl e))))).trans (hsc.mono (fun _ _ e => .inr (.inr (.inr e))))
              refine h5.mono (fun q hq e => ?_)
              have hwUr := HK2U.out.size
              rcases e with e | e | e | e
              ·exact ⟨fun hz => by have := HZlt.out q hz; omega, by omega⟩
              ·omega
              ·exact ⟨fun hz => e (.inl (HZL.out q hz)), by
                have : ¬ (w11.heap.size ≤ q ∧ q < w11.heap.size + 5) := fun h => e (.inr (.inr (.inr (.inr h))))
                omega⟩
              ·exact ⟨fun hz => by have := HZlt.out q hz; have := HA2.out.kp.size; omega, by omega⟩
             obtain ⟨n1, n2, n3, n4⟩ := HC8.out _ HNX.out.kp
             have n5 : (wx.setCell ⟨w.heap.size, 0, none⟩ (.int .i64 ((pl : Int) + 1))).cell? ⟨w.heap.size, 0, none⟩ = some (.int .i64 ((pl : Int) + 1)) := by
              have h5 := HNX.out.bx
              rw [hcst] at h5
              exact (cell_block _ _ 0 _ _ _ h5).trans rfl
             have bx5 := (HKX.out.block _ (heap_lt HA8.out.bx) (fun e => e (.inr (.inr (.inr (.inl rfl)))))).trans HA8.out.bx
             have cx17 : wx.cell? ⟨w.heap.size, 0, none⟩ = some (.int .i64 (pl : Int)) := (cell_block _ _ 0 _ _ _ bx5).trans rfl
             have fx17 : wx.frozen? ⟨w.heap.size, 0, none⟩ = false := frozen_block _ _ 0 _ _ bx5
             clear bx5 HNX0 hcst HKX HALX
             by_cases hst : (pl : Int) + 1 = stop
             ·subst hst
              gi_wp2
              (try rw [← hs11]); first | exact .inr ⟨rfl, HKY.out, rfl, _, HNX.out⟩ | exact .inr ⟨HKY.out, rfl, _, HNX.out⟩ | exact .inr ⟨HKY.out, _, HNX.out⟩ | exact ⟨HKY.out, rfl, _, HNX.out⟩ | exact ⟨HKY.out, _, HNX.out⟩
             ·gi_wp2
              (try rw [← hs11]); first | exact .inl ⟨rfl, HKY.out, HNX.out⟩ | exact .inl ⟨HKY.out, HNX.out⟩ | exact ⟨HKY.out, HNX.out⟩
          ·as_aux_lemma =>
            have hpmI : ¬ (pl : Int) < (ms.length : Int) := by omega
            gi_wp2
            refine wpIn_region_held (IsWide.in_ l) (S := fun w' => Kept (fun q => ¬ (P2 q ∨ q = b16 ∨ q ∈ Ds ∨ q = w.heap.size ∨ (w11.heap.size ≤ q ∧ q < w11.heap.size + 5))) wq w') (by kernel_rfl) (by kernel_rfl) (by rintro ⟨_, _, h9⟩; rcases h9 with h9 | h9 <;> exact absurd h9.1 (by simp)) ((Kept.refl _ _).drew) (fun hHeld => ?_)
            iterate 9
             refine tkn (v := ?_) 0 rfl ?_ ?_; rotate_left 1
             ·intro w hSw; obtain ⟨s1, s2, s3, s4, s5⟩ := HS34.out w hSw; go_simp; try with_reducible rfl
             try simp only [Act.put, tdy]
            iterate 2
             refine tkm 9 rfl ?_
             try simp only [Act.put, tdy]
            iterate 2
             refine tkn (v := ?_) 11 rfl ?_ ?_; rotate_left 1
             ·intro w hSw; obtain ⟨s1, s2, s3, s4, s5⟩ := HS34.out w hSw; go_simp; try with_reducible rfl
             try simp only [Act.put, tdy]
            iterate 6
             refine tkm 13 rfl ?_
             try simp only [Act.put, tdy]
            iterate 2
             refine tkn (v := ?_) 19 rfl ?_ ?_; rotate_left 1
             ·intro w hSw; obtain ⟨s1, s2, s3, s4, s5⟩ := HS34.out w hSw; go_simp; try with_reducible rfl
             try simp only [Act.put, tdy]
            iterate 5
             refine tkm 21 rfl ?_
             try simp only [Act.put, tdy]
            refine wpAnyH_ready (rs := [26]) (by kernel_rfl) (by simp) ?_
            refine AllReadyH.cons rfl (fun K hK => ?_) .nil
            go_simp
            refine hK.out _ _ (by assumption) (fun hHeld => ?_)
            clear hK K
            try simp only [Act.put, tdy]
            refine tku 27 rfl ?_
            try simp only [Act.put, tdy]
            refine tkp (v := ?_) 28 rfl ?_ ?_; rotate_left 1
            ·intro w hSw; obtain ⟨s1, s2, s3, s4, s5⟩ := HS34.out w hSw; go_simp; try with_reducible rfl
            try simp only [Act.put, tdy]
            refine wpAnyH_done (by kernel_rfl) ?_ _
            have HKd : Hid (Kept (fun _ => False) wq wq.drew) := (Kept.refl _ wq).drew
            have HALX : Hid (AlS (fun q => (P2 q ∨ q = b16 ∨ q ∈ Ds ∨ q = w.heap.size ∨ (w11.heap.size ≤ q ∧ q < w11.heap.size + 5))) X2 (W.heap.size + 3) wq.drew k (600 + 80 * 0 + 2 * min (pl + 1) 40) g r) := (HA8.out.al.grow HKd.out).more (by omega)
            have HKX : Hid (Kept (fun q => ¬ (P2 q ∨ q = b16 ∨ q ∈ Ds ∨ q = w.heap.size ∨ (w11.heap.size ≤ q ∧ q < w11.heap.size + 5))) wq wq.drew) := HKd.out.mono (fun _ _ f => f.elim)
            clear HKd hHeld
            generalize wq.drew = wx at *
            have HNX0 := hid_of (HA8.out.next HALX.out HKX.out (HX2.out _ hwl) hw0 HP17.out)
            have hcst : ((pl + 1 : Nat) : Int) = (pl : Int) + 1 := by omega
            have HNX : Hid (Al3 P2 X2 (W.heap.size + 3) w11 (wx.setCell ⟨w.heap.size, 0, none⟩ (.int .i64 ((pl : Int) + 1))) k g r (600 + 80 * 0) b16 w.heap.size Ds (pl + 1)) := by
             have h5 := HNX0.out
             rw [hcst] at h5
             exact h5
            have HKY : Hid (Kept (fun q => ¬ Z q ∧ (q < w11.heap.size ∨ w11.heap.size + 5 ≤ q)) U (wx.setCell ⟨w.heap.size, 0, none⟩ (.int .i64 ((pl : Int) + 1)))) := by
             have hsc : Kept (fun q => q = w.heap.size) wx (wx.setCell ⟨w.heap.size, 0, none⟩ (.int .i64 ((pl : Int) + 1))) := Kept.setCell (S := fun q => q = w.heap.size) (p := ⟨w.heap.size, 0, none⟩) (Kept.refl _ _) (.inr rfl) _
             have h5 : Kept (fun q => q = gb ∨ q = wr.heap.size ∨ ¬ (P2 q ∨ q = b16 ∨ q ∈ Ds ∨ q = w.heap.size ∨ (w11.heap.size ≤ q ∧ q < w11.heap.size + 5)) ∨ q = w.heap.size) U (wx.setCell ⟨w.heap.size, 0, none⟩ (.int .i64 ((pl : Int) + 1))) := ((HKQ.out.mono (fun _ _ e => by rcases e with e | e; exact .inl e; exact .inr (.inl e))).trans (HKX.out.mono (fun _ _ e => .inr (.inr (.inl e))))).trans (hsc.mono (fun _ _ e => .inr (.inr (.inr e))))
             refine h5.mono (fun q hq e => ?_)
             have hwUr := HK2U.out.size
             rcases e with e | e | e | e
             ·exact ⟨fun hz => by have := HZlt.out q hz; omega, by omega⟩
             ·omega
             ·exact ⟨fun hz => e (.inl (HZL.out q hz)), by
               have : ¬ (w11.heap.size ≤ q ∧ q < w11.heap.size + 5) := fun h => e (.inr (.inr (.inr (.inr h))))
               omega⟩
             ·exact ⟨fun hz => by have := HZlt.out q hz; have := HA2.out.kp.size; omega, by omega⟩
            obtain ⟨n1, n2, n3, n4⟩ := HC8.out _ HNX.out.kp
            have n5 : (wx.setCell ⟨w.heap.size, 0, none⟩ (.int .i64 ((pl : Int) + 1))).cell? ⟨w.heap.size, 0, none⟩ = some (.int .i64 ((pl : Int) + 1)) := by
             have h5 := HNX.out.bx
             rw [hcst] at h5
             exact (cell_block _ _ 0 _ _ _ h5).trans rfl
            have bx5 := (HKX.out.block _ (heap_lt HA8.out.bx) (fun e => e (.inr (.inr (.inr (.inl rfl)))))).trans HA8.out.bx
            have cx17 : wx.cell? ⟨w.heap.size, 0, none⟩ = some (.int .i64 (pl : Int)) := (cell_block _ _ 0 _ _ _ bx5).trans rfl
            have fx17 : wx.frozen? ⟨w.heap.size, 0, none⟩ = false := frozen_block _ _ 0 _ _ bx5
            clear bx5 HNX0 hcst HKX HALX
            by_cases hst : (pl : Int) + 1 = stop
            ·subst hst
             gi_wp2
             (try rw [← hs11]); first | exact .inr ⟨rfl, HKY.out, rfl, _, HNX.out⟩ | exact .inr ⟨HKY.out, rfl, _, HNX.out⟩ | exact .inr ⟨HKY.out, _, HNX.out⟩ | exact ⟨HKY.out, rfl, _, HNX.out⟩ | exact ⟨HKY.out, _, HNX.out⟩
            ·gi_wp2
             (try rw [← hs11]); first | exact .inl ⟨rfl, HKY.out, HNX.out⟩ | exact .inl ⟨HKY.out, HNX.out⟩ | exact ⟨HKY.out, HNX.out⟩
     ·skip
      rintro D xs w12 hD hS h3 hKD
      have HKD := hid_of hKD
      have HA3' := hid_of h3
      have hD17 : D ≠ w.heap.size := by omega
      have c16 : w12.cell? ⟨b16, 0, none⟩ = some (.int .i64 (tn : Int)) := h3.kp.cell (HK11.out.cell ((cell_block _ _ 0 _ _ _ HA2.out.bx).trans rfl) (fun f => f)) (fun e => e (.inr (.inl rfl)))
      have c17 : w12.cell? ⟨w.heap.size, 0, none⟩ = some (.int .i64 (xs.length : Int)) := (cell_block _ _ 0 _ _ _ h3.bx).trans rfl
      have c14 : w12.cell? ⟨w6.heap.size, 0, none⟩ = some (.slice wo l'.length wcap) := by
       have h5 : w11.cell? ⟨w6.heap.size, 0, none⟩ = some (.slice wo l'.length wcap) := HKW.out.cell ⟨HSZ.out.2.1, HSZ.out.2.2.1⟩ ((cell_block _ _ 0 _ _ _ HB14'.out).trans rfl)
       exact h3.kp.cell h5 (fun e => e (.inl (HP2.out.2.2.1 _ HSZ.out.2.1 (by show w6.heap.size < w10.heap.size; have := HSZ.out.2.2.1; omega))))
      have HB16' : Hid ((w12.alloc (.cells #[.int .i64 ((tn + 1 : Nat) : Int)] 3)).heap[w12.heap.size]? = some (.cells #[.int .i64 ((tn + 1 : Nat) : Int)] 3 (0, 0))) := alloc_new _ _ rfl
      have HK13 : Hid (Kept (fun _ => False) w12 (w12.alloc (.cells #[.int .i64 ((tn + 1 : Nat) : Int)] 3))) := (Kept.refl _ w12).alloc _
      have wr1 : IntKind.i64.wrap ((tn : Int) + 1) = ((tn + 1 : Nat) : Int) := by rw [IntKind.wrap_i64]; omega
      have HNXT : Hid (Al2 P2 X2 (W.heap.size + 3) w10 (w12.alloc (.cells #[.int .i64 ((tn + 1 : Nat) : Int)] 3)) k g r (tn + 1) w12.heap.size (D :: Ds)) := by
       have hs12 : w11.heap.size ≤ w12.heap.size := h3.kp.size
       have hk14 : Kept (fun _ => False) w12 (w12.alloc (.cells #[.int .i64 ((tn + 1 : Nat) : Int)] 3)) := HK13.out
       have hsz14 : (w12.alloc (.cells #[.int .i64 ((tn + 1 : Nat) : Int)] 3)).heap.size = w12.heap.size + 1 := by simp
       refine ⟨(((h3.al.addFrm hKD (.inr ⟨_, rfl⟩)).add hk14).more (n' := 600 + 80 * (tn + 1)) (by omega)).sub ?_ ?_, (HA2.out.kp.trans (HK11.out.mono (fun _ _ f => f.elim))).step (h3.kp.trans (hk14.mono (fun _ _ f => f.elim))) (fun q hq e h => e (.inl h)), HB16'.out, List.nodup_cons.2 ⟨fun hd => ?_, HA2.out.nd⟩, by simp [HA2.out.ln], fun E hE => ?_, fun E hE => ?_⟩
       ·rintro q (hq | rfl | hq)
        ·exact .inl (.inl (.inl hq))
        ·exact .inr (Nat.le_refl _)
        ·rcases List.mem_cons.1 hq with rfl | hq
         ·exact .inl (.inr rfl)
         ·exact .inl (.inl (.inr (.inr (.inl hq))))
       ·exact fun q hq => .inl hq
       ·have := heap_lt (HA2.out.dd D hd)
        omega
       ·rcases List.mem_cons.1 hE with rfl | hE
        ·exact (hk14.block _ (heap_lt hKD) (fun f => f)).trans hKD
        ·have h7 := HA2.out.dd E hE
         have h8 : w11.heap[E]? = some (.deferred (some [])) := (HK11.out.block E (heap_lt h7) (fun f => f)).trans h7
         have h9 : w12.heap[E]? = some (.deferred (some [])) := (h3.kp.block E (heap_lt h8) (fun e => e (.inr (.inr hE)))).trans h8
         exact (hk14.block _ (heap_lt h9) (fun f => f)).trans h9
       ·rcases List.mem_cons.1 hE with rfl | hE
        ·have := HA2.out.kp.size; omega
        ·exact HA2.out.hi E hE
      have hlnD : (List.map mk (D :: Ds)).length = (List.map mk Ds).length + 1 := by simp
      have hlnN : (List.map mk Ds).length < 2 := by simp [HA2.out.ln]; omega
      clear h3 hKD HA2
      have hxm : xs.length = l'.length := by
       have h5 := congrArg List.length hS
       rw [List.length_map, List.length_map, HSN.out.len] at h5
       obtain ⟨fa, fc, ff⟩ := HSN.out.form
       injection ff with _ ff _
       omega
      by_cases ht1 : tn = 1
      ·subst ht1
       rw [hxm] at c17
       gi_wp2
       refine ⟨[.pointer (some ⟨w12.heap.size, 0, none⟩), ?_, ?_, ?_, ?_, ?_, ?_, ?_, ?_, ?_, ?_, ?_, ?_, ?_, ?_, ?_], List.map mk (D :: Ds), ?_, ⟨1 + 1, w12.heap.size, D :: Ds, _, _, _, _, _, _, _, _, _, _, _, _, _, _, _, rfl, rfl, by omega, HNXT⟩, hlnD, hlnN⟩
       rotate_left 15
       ·skip
        simp only [setAll, tdy]
        rfl
      ·obtain rfl : tn = 0 := by omega
       gi_wp2
       refine ⟨[.pointer (some ⟨w12.heap.size, 0, none⟩), ?_, ?_, ?_, ?_, ?_, ?_, ?_, ?_, ?_, ?_, ?_, ?_, ?_, ?_, ?_], List.map mk (D :: Ds), ?_, ⟨0 + 1, w12.heap.size, D :: Ds, _, _, _, _, _, _, _, _, _, _, _, _, _, _, _, rfl, rfl, by omega, HNXT⟩, hlnD, hlnN⟩
       rotate_left 15
       ·skip
        simp only [setAll, tdy]
        rfl
     ·skip
      rintro D w12 hD ⟨h0, nn, h3⟩ hKD
      have HKD := hid_of hKD
      have HA3' := hid_of h3
      have hD17 : D ≠ w.heap.size := by omega
      have c16 : w12.cell? ⟨b16, 0, none⟩ = some (.int .i64 (tn : Int)) := h3.kp.cell (HK11.out.cell ((cell_block _ _ 0 _ _ _ HA2.out.bx).trans rfl) (fun f => f)) (fun e => e (.inr (.inl rfl)))
      have c17 : w12.cell? ⟨w.heap.size, 0, none⟩ = some (.int .i64 (nn : Int)) := (cell_block _ _ 0 _ _ _ h3.bx).trans rfl
      have c14 : w12.cell? ⟨w6.heap.size, 0, none⟩ = some (.slice wo l'.length wcap) := by
       have h5 : w11.cell? ⟨w6.heap.size, 0, none⟩ = some (.slice wo l'.length wcap) := HKW.out.cell ⟨HSZ.out.2.1, HSZ.out.2.2.1⟩ ((cell_block _ _ 0 _ _ _ HB14'.out).trans rfl)
       exact h3.kp.cell h5 (fun e => e (.inl (HP2.out.2.2.1 _ HSZ.out.2.1 (by show w6.heap.size < w10.heap.size; have := HSZ.out.2.2.1; omega))))
      have HB16' : Hid ((w12.alloc (.cells #[.int .i64 ((tn + 1 : Nat) : Int)] 3)).heap[w12.heap.size]? = some (.cells #[.int .i64 ((tn + 1 : Nat) : Int)] 3 (0, 0))) := alloc_new _ _ rfl
      have HK13 : Hid (Kept (fun _ => False) w12 (w12.alloc (.cells #[.int .i64 ((tn + 1 : Nat) : Int)] 3))) := (Kept.refl _ w12).alloc _
      have wr1 : IntKind.i64.wrap ((tn : Int) + 1) = ((tn + 1 : Nat) : Int) := by rw [IntKind.wrap_i64]; omega
      have HNXT : Hid (Al2 P2 X2 (W.heap.size + 3) w10 (w12.alloc (.cells #[.int .i64 ((tn + 1 : Nat) : Int)] 3)) k g r (tn + 1) w12.heap.size (D :: Ds)) := by
       have hs12 : w11.heap.size ≤ w12.heap.size := h3.kp.size
       have hk14 : Kept (fun _ => False) w12 (w12.alloc (.cells #[.int .i64 ((tn + 1 : Nat) : Int)] 3)) := HK13.out
       have hsz14 : (w12.alloc (.cells #[.int .i64 ((tn + 1 : Nat) : Int)] 3)).heap.size = w12.heap.size + 1 := by simp
       refine ⟨(((h3.al.addFrm hKD (.inr ⟨_, rfl⟩)).add hk14).more (n' := 600 + 80 * (tn + 1)) (by omega)).sub ?_ ?_, (HA2.out.kp.trans (HK11.out.mono (fun _ _ f => f.elim))).step (h3.kp.trans (hk14.mono (fun _ _ f => f.elim))) (fun q hq e h => e (.inl h)), HB16'.out, List.nodup_cons.2 ⟨fun hd => ?_, HA2.out.nd⟩, by simp [HA2.out.ln], fun E hE => ?_, fun E hE => ?_⟩
       ·rintro q (hq | rfl | hq)
        ·exact .inl (.inl (.inl hq))
        ·exact .inr (Nat.le_refl _)
        ·rcases List.mem_cons.1 hq with rfl | hq
         ·exact .inl (.inr rfl)
         ·exact .inl (.inl (.inr (.inr (.inl hq))))
       ·exact fun q hq => .inl hq
       ·have := heap_lt (HA2.out.dd D hd)
        omega
       ·rcases List.mem_cons.1 hE with rfl | hE
        ·exact (hk14.block _ (heap_lt hKD) (fun f => f)).trans hKD
        ·have h7 := HA2.out.dd E hE
         have h8 : w11.heap[E]? = some (.deferred (some [])) := (HK11.out.block E (heap_lt h7) (fun f => f)).trans h7
         have h9 : w12.heap[E]? = some (.deferred (some [])) := (h3.kp.block E (heap_lt h8) (fun e => e (.inr (.inr hE)))).trans h8
         exact (hk14.block _ (heap_lt h9) (fun f => f)).trans h9
       ·rcases List.mem_cons.1 hE with rfl | hE
        ·have := HA2.out.kp.size; omega
        ·exact HA2.out.hi E hE
      have hlnD : (List.map mk (D :: Ds)).length = (List.map mk Ds).length + 1 := by simp
      have hlnN : (List.map mk Ds).length < 2 := by simp [HA2.out.ln]; omega
      clear h3 hKD HA2
      obtain rfl : tn = 0 := h0
      gi_wp2
      refine ⟨[.pointer (some ⟨w12.heap.size, 0, none⟩), ?_, ?_, ?_, ?_, ?_, ?_, ?_, ?_, ?_, ?_, ?_, ?_, ?_, ?_, ?_], List.map mk (D :: Ds), ?_, ⟨0 + 1, w12.heap.size, D :: Ds, _, _, _, _, _, _, _, _, _, _, _, _, _, _, _, rfl, rfl, by omega, HNXT⟩, hlnD, hlnN⟩
      rotate_left 15
      ·skip
       simp only [setAll, tdy]
       rfl
    ·obtain rfl : tn = 2 := by omega
     obtain ⟨s', mv', σ', lv2, ρ', iv', mm', hWd', hP', hX'⟩ := HA2.out.al
     have cT : w.cell? ⟨b16, 0, none⟩ = some (.int .i64 2) := (cell_block _ _ 0 _ _ _ HA2.out.bx).trans rfl
     have c11w : w.cell? ⟨b11, 0, none⟩ = some (.pointer (some ⟨g, 0, none⟩)) := HA2.out.kp.cell HC10.out (fun e => e HP2.out.2.1)
     have cg0 : w.cell? ⟨g, 0, none⟩ = some (.pointer (some ⟨s', 0, none⟩)) := (cell_block _ _ 0 _ _ _ hWd'.blk).trans rfl
     have cg1 : w.cell? ⟨g, 1, none⟩ = some (.pointer (some ⟨r, 0, none⟩)) := (cell_block _ _ 1 _ _ _ hWd'.blk).trans rfl
     have hgl := hWd'.gl.1
     have HS42 : Hid (∀ w', Kept (fun q => q = W.heap.size + 1 + 1) w w' → w'.cell? ⟨b11, 0, none⟩ = some (.pointer (some ⟨g, 0, none⟩)) ∧ w'.cell? ⟨g, 0, none⟩ = some (.pointer (some ⟨s', 0, none⟩)) ∧ w'.cell? ⟨g, 1, none⟩ = some (.pointer (some ⟨r, 0, none⟩))) := fun w' hw => ⟨hw.cell c11w (fun e => by have e' : b11 = W.heap.size + 1 + 1 := e; omega), hw.cell cg0 (fun e => by have e' : g = W.heap.size + 1 + 1 := e; omega), hw.cell cg1 (fun e => by have e' : g = W.heap.size + 1 + 1 := e; omega)⟩
     have HAL : Hid (∀ w', Kept (fun _ => False) w w' → Calls Tryz.prog 7 #[.pointer (some ⟨s', 0, none⟩), .pointer (some ⟨r, 0, none⟩)] w' fun e w'' => e = .returned (.bool true) ∧ Kept (fun _ => False) w' w'') := fun w' h => alike_any (hWd'.two.same h) (by omega)
     have HHD : Hid (∀ w', Kept (fun _ => False) w w' → Calls Tryz.prog 9 #[] w' fun e w'' => e = .returned (.bool true) ∧ Kept (fun _ => False) w' w'') := fun w' h => head_any w' (laid_kept (S := fun _ => False) hWd'.two.laid h (fun f => f))
     have HB10w : Hid (w.heap[W.heap.size + 1 + 1]? = some (.cells #[.bool false] 4 (0, 0))) := (HA2.out.kp.block _ (heap_lt HB10'.out) (fun e => e (HP2.out.1 _ (by omega)))).trans HB10'.out
     have HWw : Hid (Kept (fun _ => False) W w) := HW10.out.step HA2.out.kp (fun i hi e => e (HP2.out.1 i (by omega)))
     have HKd : Hid (Kept (fun _ => False) w w.drew) := (Kept.refl _ w).drew
     clear hWd' hP' hX' c11w cg0 cg1
     gi_wp2
     refine wpIn_wide.2 ?_
     refine wp_region_noPanic ?_
     refine wp_region_held_drew (S := fun w' => Kept (fun q => q = W.heap.size + 1 + 1) w w') (by kernel_rfl) ((Kept.refl _ _).drew) (fun hHeld => ?_)
     iterate 8
      refine tkn (v := ?_) 0 rfl ?_ ?_; rotate_left 1
      ·intro w hSw; obtain ⟨s1, s2, s3⟩ := HS42.out w hSw; go_simp; try with_reducible rfl
      try simp only [Act.put, tdy]
     refine wpAnyH_ready (rs := [8]) (by kernel_rfl) (by simp) ?_
     refine AllReadyH.cons rfl (fun K hK => ?_) .nil
     go_simp
     refine (HAL.out _ HKd.out).mono ?_
     rintro e w13 ⟨rfl, hk13⟩
     have HK13 : Hid (Kept (fun _ => False) w w13) := HKd.out.trans hk13
     clear hk13 HAL
     refine hK.out _ _ (HK13.out.mono (fun _ _ f => f.elim)) (fun hHeld => ?_)
     clear hK K
     try simp only [Act.put, tdy]
     refine tkp (v := ?_) 9 rfl ?_ ?_; rotate_left 1
     ·intro w hSw; obtain ⟨s1, s2, s3⟩ := HS42.out w hSw; go_simp; try with_reducible rfl
     try simp only [Act.put, tdy]
     refine wpAnyH_ready (rs := [10]) (by kernel_rfl) (by simp) ?_
     refine AllReadyH.cons rfl (fun K hK => ?_) .nil
     go_simp
     refine (HHD.out _ HK13.out).mono ?_
     rintro e w14 ⟨rfl, hk14⟩
     have HK14 : Hid (Kept (fun _ => False) w w14) := HK13.out.trans hk14
     clear hk14 HHD
     refine hK.out _ _ (HK14.out.mono (fun _ _ f => f.elim)) (fun hHeld => ?_)
     clear hK K
     try simp only [Act.put, tdy]
     refine tkp (v := ?_) 11 rfl ?_ ?_; rotate_left 1
     ·intro w hSw; obtain ⟨s1, s2, s3⟩ := HS42.out w hSw; go_simp; try with_reducible rfl
     try simp only [Act.put, tdy]
     have hb14' : w14.heap[W.heap.size + 1 + 1]? = some (.cells #[.bool false] 4 (0, 0)) := (HK14.out.block _ (heap_lt HB10w.out) (fun f => f)).trans HB10w.out
     have c10 : w14.cell? ⟨W.heap.size + 1 + 1, 0, none⟩ = some (.bool false) := (cell_block _ _ 0 _ _ _ hb14').trans rfl
     have f10 : w14.frozen? ⟨W.heap.size + 1 + 1, 0, none⟩ = false := frozen_block _ _ 0 _ _ hb14'
     have HK15 : Hid (Kept (fun q => q = W.heap.size + 1 + 1) w (w14.setCell ⟨W.heap.size + 1 + 1, 0, none⟩ (.bool true))) := Kept.setCell (S := fun q => q = W.heap.size + 1 + 1) (p := ⟨W.heap.size + 1 + 1, 0, none⟩) (HK14.out.mono (fun _ _ f => f.elim)) (.inr rfl) _
     have HF15 : Hid ((w14.setCell ⟨W.heap.size + 1 + 1, 0, none⟩ (.bool true)).heap[W.heap.size + 1 + 1]? = some (.cells #[.bool true] 4 (0, 0))) := set_block w14 _ _ _ _ _ hb14' _
     refine wpAnyH_ready (rs := [12]) (by kernel_rfl) (by simp) ?_
     refine AllReadyH.cons rfl (fun K hK => ?_) .nil
     go_simp
     refine hK.out _ _ HK15.out (fun hHeld => ?_)
     clear hK K
     try simp only [Act.put, tdy]
     refine wpAnyH_done (by kernel_rfl) ?_ _
     refine NoPanic.normal ?_
     clear hHeld c10 f10 hb14'
     generalize w14.setCell ⟨W.heap.size + 1 + 1, 0, none⟩ (.bool true) = w15 at *
     gi_wp2
     refine leaves_marks Ds _ HA2.out.nd (fun D hD => ?_) (fun w16 hw16 => ?_)
     ·have h7 := HA2.out.dd D hD
      have h8 := HA2.out.hi D hD
      have h9 := HW10.out.size
      have h10 := heap_lt HB10'.out
      exact (HK15.out.block D (heap_lt h7) (fun e => by have e' : D = W.heap.size + 1 + 1 := e; omega)).trans h7
     ·obtain ⟨a1, a2, a3, a4, a5⟩ := hw16
      have h10 := heap_lt HB10'.out
      have hb16 : w16.heap[W.heap.size + 1 + 1]? = some (.cells #[.bool true] 4 (0, 0)) := (a5 _ (fun hd => by have := HA2.out.hi _ hd; omega)).trans HF15.out
      have c16 : w16.cell? ⟨W.heap.size + 1 + 1, 0, none⟩ = some (.bool true) := (cell_block _ _ 0 _ _ _ hb16).trans rfl
      have hk := HWw.out.step HK15.out (fun i hi e => by have e' : i = W.heap.size + 1 + 1 := e; omega)
      refine ⟨.bool true, ?_, rfl, a1.trans hk.os, a2.trans hk.tape, a3.trans hk.output, by have := hk.size; omega, fun q hq hn => (a5 q (fun hd => by have := HA2.out.hi q hd; have := HW10.out.size; omega)).trans (hk.block q hq hn)⟩
      simp [results, go_sem, c16]
end Go.Proofs.YtjdbmjkidljhpaaGreatDoor

/-
 Counts, Twin, by contract.
-/
import Derived.Test.YtjdbmjkidljhpaaGreatDoorTMq
import Derived.Test.YtjdbmjkidljhpaaGreatDoorTMs
import Derived.Test.YtjdbmjkidljhpaaGreatDoorTMn
namespace Go.Proofs.YtjdbmjkidljhpaaGreatDoor
open Go.RowKit
set_option linter.unusedVariables false
set_option linter.unusedSimpArgs false
set_option maxRecDepth 100000
theorem size38s : (Tryz.prog.info? 38).map (·.size) = some 2 := by kernel_rfl
theorem size65s : (Tryz.prog.info? 65).map (·.size) = some 7 := by kernel_rfl
set_option maxHeartbeats 2000000 in
theorem counts_any {w : World} {s : Nat} {mv : Value} {σ : Sg} (h : Stor w s mv σ) : Calls Tryz.prog 8 #[.pointer (some ⟨s, 0, none⟩)] w fun e w' => e = .returned (.agg #[.int .i64 σ.gt, .int .i64 σ.pt]) ∧ Kept (fun _ => False) w w' := by
 obtain ⟨ls, hls⟩ : ∃ l, l = [Value.int .i64 σ.gt, Value.int .i64 σ.pt] := ⟨_, rfl⟩
 have HV : Hid (Value.agg #[.int .i64 σ.gt, .int .i64 σ.pt] = .agg ls.toArray) := by show _ = _; rw [hls]
 have hsl : (Tryz.prog.info? 38).map (·.size) = some ls.length := by rw [hls]; exact size38s
 have hsa : (Tryz.prog.info? 38).map (·.size) = some ls.toArray.size := by rw [hls]; exact size38s
 have HOS : Hid (2 = ls.toArray.size) := by show 2 = _; rw [hls]; rfl
 have hone : ls.toArray.all (·.oneCell') = true := by rw [hls]; simp [Value.oneCell']
 rw [HV.out]
 have HM : Hid ((w.alloc (.cells #[.int .i64 0, .int .i64 0] 38)).rangeAt s 5 ls) := fun j u hj => by
  rw [hls] at hj
  rw [cell_block _ _ _ _ _ _ (alloc_old h.blk)]
  match j with
  | 0 => exact hj
  | 1 => exact hj
  | j + 2 => simp at hj
 have HZ : Hid ((w.alloc (.cells #[.int .i64 0, .int .i64 0] 38)).heap[w.heap.size]? = some (.cells #[.int .i64 0, .int .i64 0] 38 (0, 0))) := alloc_new _ _ rfl
 have HF := hid_of (setRow_heap (w.alloc (.cells #[.int .i64 0, .int .i64 0] 38)) w.heap.size _ ls.toArray 38 (0, 0) HZ.out)
 have HK : Hid (Kept (fun _ => False) w ((w.alloc (.cells #[.int .i64 0, .int .i64 0] 38)).setRow w.heap.size ls.toArray)) := ((Kept.refl _ w).alloc _).setRow (.inl (Nat.le_refl _)) _
 clear h hls HV
 go_enter Tryz.func8, Tryz.ntmps8
 go_upto_region 1 with fail
 generalize w.alloc (.cells #[.int .i64 0, .int .i64 0] 38) = wA at *
 go_wp2_with (first | refine wpList_load_mid rfl 38 _ rfl s 5 rfl ls _ HM.out Tryz.underlying38 rfl hsl ?_ | refine wpList_store_row rfl 38 _ _ rfl w.heap.size ls.toArray rfl rfl 38 _ HZ.out hsa HOS.out hone ?_)
 try simp only [Act.put]
 refine bodyPost_ret (v := .agg ls.toArray) ?_ rfl ⟨rfl, HK.out⟩
 exact results_cell_row (by rfl) _ _ w.heap.size 38 ls.toArray (0, 0) _ (by rfl) HF.out Tryz.underlying38 rfl hsa
theorem Stor.bytelt {w : World} {s : Nat} {mv : Value} {σ : Sg} (h : Stor w s mv σ) {e : En} (he : e ∈ σ.es) (h0 : e.xs ≠ []) : ∀ g, e.bv.ownBlock = some g → g < w.heap.size := fun g hg => by
 obtain ⟨o, x, hc⟩ := (h.blob e he).1.u8 h0 g hg
 exact World.block_lt_of_cell? _ _ hc
def TwinW (w : World) (σ : Sg) (e : Ending) (w' : World) : Prop := ∃ mv', e = .returned (.pointer (some ⟨w.heap.size, 0, none⟩)) ∧ Stor w' w.heap.size mv' σ ∧ Kept (fun _ => False) w w' ∧ ∀ q, mv' = .map (some q) → w.heap.size ≤ q
set_option maxHeartbeats 4000000 in
theorem twin_any {w : World} {s : Nat} {mv : Value} {σ : Sg} (h : Stor w s mv σ) : Calls Tryz.prog 24 #[.pointer (some ⟨s, 0, none⟩)] w (TwinW w σ) := by
 have HS := hid_of h
 have hsl : s < w.heap.size := h.lt
 have HZ : Hid ((w.alloc (.cells #[.int .i64 0, .int .i64 0, .map none, .int .i64 0, .int .i64 0, .int .i64 0, .int .i64 0] 65)).heap[w.heap.size]? = some (.cells #[.int .i64 0, .int .i64 0, .map none, .int .i64 0, .int .i64 0, .int .i64 0, .int .i64 0] 65 (0, 0))) := alloc_new _ _ rfl
 have HB : Hid ((w.alloc (.cells #[.int .i64 0, .int .i64 0, .map none, .int .i64 0, .int .i64 0, .int .i64 0, .int .i64 0] 65)).heap[s]? = some (.cells (σ.cells mv) 65 (0, 0))) := alloc_old h.blk
 have HF := hid_of (setRow_heap (w.alloc (.cells #[.int .i64 0, .int .i64 0, .map none, .int .i64 0, .int .i64 0, .int .i64 0, .int .i64 0] 65)) w.heap.size _ (σ.cells mv) 65 (0, 0) HZ.out)
 have HK : Hid (Kept (fun _ => False) w ((w.alloc (.cells #[.int .i64 0, .int .i64 0, .map none, .int .i64 0, .int .i64 0, .int .i64 0, .int .i64 0] 65)).setRow w.heap.size (σ.cells mv))) := ((Kept.refl _ w).alloc _).setRow (.inl (Nat.le_refl _)) _
 have HWS : Hid (((w.alloc (.cells #[.int .i64 0, .int .i64 0, .map none, .int .i64 0, .int .i64 0, .int .i64 0, .int .i64 0] 65)).setRow w.heap.size (σ.cells mv)).heap.size = w.heap.size + 1) := by show _ = _; simp [World.setRow]
 have hsz : (Tryz.prog.info? 65).map (·.size) = some (σ.cells mv).size := size65s
 have HOS : Hid (7 = (σ.cells mv).size) := rfl
 unfold TwinW
 rcases h.map with ⟨hm, hes⟩ | ⟨rm, clock, hm, hb, hne, hst⟩
 ·subst hm
  have hone : (σ.cells (.map none)).all (·.oneCell') = true := by simp [Sg.cells, Value.oneCell']
  have HBW : Hid (w.heap[s]? = some (.cells (σ.cells (.map none)) 65 (0, 0))) := h.blk
  have HES := hid_of hes
  clear h
  go_enter Tryz.func24, Tryz.ntmps24
  go_upto_region 2 with (first | refine wpList_load_row rfl 65 _ rfl s rfl 65 (σ.cells (.map none)) (0, 0) _ HBW.out Tryz.underlying65 rfl hsz ?_ | refine wpList_store_row rfl 65 _ _ rfl w.heap.size (σ.cells (.map none)) rfl rfl 65 _ HZ.out hsz HOS.out hone ?_)
  generalize (w.alloc (.cells #[.int .i64 0, .int .i64 0, .map none, .int .i64 0, .int .i64 0, .int .i64 0, .int .i64 0] 65)).setRow w.heap.size (σ.cells (.map none)) = wA at *
  have HMC := hid_of (mclone_none wA)
  have c2 : wA.cell? ⟨s, 2, none⟩ = some (.map none) := HK.out.cell (HS.out.cell 2) (fun f => f)
  have c3 : wA.cell? ⟨w.heap.size, 2, none⟩ = some (.map none) := cell_block _ _ 2 _ _ _ HF.out
  have hfz := frozen_block wA w.heap.size 2 _ _ HF.out
  have HF2 := hid_of (set_block _ _ 2 _ _ _ HF.out (.map none))
  have HK2 : Hid (Kept (fun _ => False) w (wA.setCell ⟨w.heap.size, 2, none⟩ (.map none))) := HK.out.setCell (.inl (Nat.le_refl _)) _
  go_wp2_with fail
  refine HMC.out.mono ?_
  rintro e w2 ⟨rfl, rfl⟩
  clear HMC
  go_wp2
  go_ret
  refine ⟨.map none, rfl, ⟨HF2.out, .inl ⟨rfl, HES.out⟩, HS.out.key, fun e he => ?_⟩, HK2.out, fun q hq => by cases hq⟩
  rw [HES.out] at he
  cases he
 ·subst hm
  have hone : (σ.cells (.map (some rm))).all (·.oneCell') = true := by simp [Sg.cells, Value.oneCell']
  have HBW : Hid (w.heap[s]? = some (.cells (σ.cells (.map (some rm))) 65 (0, 0))) := h.blk
  have HRB := hid_of hb
  have HST := hid_of hst
  clear h hb hst
  go_enter Tryz.func24, Tryz.ntmps24
  go_upto_region 2 with (first | refine wpList_load_row rfl 65 _ rfl s rfl 65 (σ.cells (.map (some rm))) (0, 0) _ HBW.out Tryz.underlying65 rfl hsz ?_ | refine wpList_store_row rfl 65 _ _ rfl w.heap.size (σ.cells (.map (some rm))) rfl rfl 65 _ HZ.out hsz HOS.out hone ?_)
  generalize (w.alloc (.cells #[.int .i64 0, .int .i64 0, .map none, .int .i64 0, .int .i64 0, .int .i64 0, .int .i64 0] 65)).setRow w.heap.size (σ.cells (.map (some rm))) = wA at *
  have HMC := hid_of (mclone_any rm clock (σ.es.map En.ent).toArray wA ((HK.out.block _ (heap_lt HRB.out) (fun f => f)).trans HRB.out))
  have c2 : wA.cell? ⟨s, 2, none⟩ = some (.map (some rm)) := HK.out.cell (HS.out.cell 2) (fun f => f)
  have HFA : Hid ((wA.alloc (.map (σ.es.map En.ent).toArray clock)).heap[w.heap.size]? = some (.cells (σ.cells (.map (some rm))) 65 (0, 0))) := alloc_old HF.out
  have HNEW : Hid ((wA.alloc (.map (σ.es.map En.ent).toArray clock)).heap[wA.heap.size]? = some (.map (σ.es.map En.ent).toArray clock)) := alloc_new _ _ rfl
  have HKA : Hid (Kept (fun _ => False) w (wA.alloc (.map (σ.es.map En.ent).toArray clock))) := HK.out.alloc _
  go_wp2_with fail
  refine HMC.out.mono ?_
  rintro e w2 ⟨rfl, rfl⟩
  clear HMC HBW HF c2
  generalize wA.alloc (.map (σ.es.map En.ent).toArray clock) = wC at *
  obtain ⟨q, hq⟩ : ∃ q, q = wA.heap.size := ⟨_, rfl⟩
  rw [← hq] at HNEW HWS ⊢
  clear hq
  have hws := HWS.out
  clear HWS
  have HQ : Hid (q = w.heap.size + 1) := hws
  clear hws
  have c3 : wC.cell? ⟨w.heap.size, 2, none⟩ = some (.map (some rm)) := cell_block _ _ 2 _ _ _ HFA.out
  have hfz := frozen_block wC w.heap.size 2 _ _ HFA.out
  have HF2 := hid_of (set_block _ _ 2 _ _ _ HFA.out (.map (some q)))
  have HK2 : Hid (Kept (fun _ => False) w (wC.setCell ⟨w.heap.size, 2, none⟩ (.map (some q)))) := HKA.out.setCell (.inl (Nat.le_refl _)) _
  have HN2 : Hid ((wC.setCell ⟨w.heap.size, 2, none⟩ (.map (some q))).heap[q]? = some (.map (σ.es.map En.ent).toArray clock)) := ((kept_set wC ⟨w.heap.size, 2, none⟩ (.map (some q))).block q (heap_lt HNEW.out) (fun e => by have e' : q = w.heap.size := e; have := HQ.out; omega)).trans HNEW.out
  go_wp2
  go_ret
  refine ⟨.map (some q), rfl, ⟨HF2.out, .inr ⟨q, clock, rfl, HN2.out, by have := HQ.out; omega, HST.out⟩, HS.out.key, fun e he => ?_⟩, HK2.out, fun q' hq' => by injection hq' with hq'; injection hq' with hq'; have := HQ.out; omega⟩
  obtain ⟨b1, b2, b3, b4⟩ := HS.out.blob e he
  exact ⟨b1.kept2 HK2.out (fun _ _ _ f => f), b2, b3, fun h0 g hg => by have := HS.out.bytelt he h0 g hg; omega⟩
theorem Wd.twin {w : World} {lo k n g s : Nat} {mv : Value} {σ : Sg} {r : Nat} {lv : Value} {ρ : Rg} {iv : Value} {m : Nat} (h : Wd w lo k n g s mv σ r lv ρ iv m) {w1 : World} (hk1 : Kept (fun _ => False) w w1) {s' : Nat} {mv' : Value} (hst : Stor w1 s' mv' σ) (hs : w.heap.size ≤ s') (hm : ∀ q, mv' = .map (some q) → w.heap.size ≤ q) {n' : Nat} (hn : n ≤ n') : WdTo w (w1.setCell ⟨g, 0, none⟩ (.pointer (some ⟨s', 0, none⟩))) lo k n' g s mv σ r lv ρ iv := by
 have h1 := h.same hk1
 have hg := heap_lt h.blk
 have hlo : lo ≤ w.heap.size := by have := h.gl.1; omega
 have hS : Kept (fun q => q = g) w1 (w1.setCell ⟨g, 0, none⟩ (.pointer (some ⟨s', 0, none⟩))) := kept_set w1 ⟨g, 0, none⟩ _
 have new : ∀ q, Own s' mv' q → w.heap.size ≤ q := fun q ho => by
  rcases ho with rfl | ho
  ·exact hs
  ·exact hm q ho
 have st2 : Stor (w1.setCell ⟨g, 0, none⟩ (.pointer (some ⟨s', 0, none⟩))) s' mv' σ := hst.keptx hS (fun q ho e => by have := new q ho; have e' : q = g := e; omega) (fun e he h0 q hq eq => h1.bg q (.inl ⟨e, he, h0, hq⟩) eq)
 have goffR : ∀ q, OwnR r lv q → q ≠ g := fun q ho e => h1.goff (by rw [← e]; exact .inr ho)
 have rs2 := h1.two.rs.kept hS (fun q hq e => goffR q hq e) (fun b hb h0 q hq e => h1.bg q (.inr ⟨b, hb, h0, hq⟩) e)
 have L2 := laid_kept h1.two.laid hS (fun e => by have e' : 0 = g := e; have := h.gl.1; have := h.two.lo0; omega)
 refine ⟨s', mv', σ, lv, ρ, iv, m, ⟨⟨st2, h.two.sane.more hn, rs2, h.two.alk, h.two.num, L2, h.two.k1, h.two.ap, fun q hq => ?_, h.two.lo0, Nat.le_trans h.two.cnt hn⟩, ?_, h1.inn.kept hS (fun q hq e => (h1.ioff q hq).2 e), h.mm, h.gl, h.api⟩, ?_, fun q hq => ?_, fun q hq => .inl hq⟩
 ·rcases hq with hq | hq
  ·have := new q hq; omega
  ·exact h.two.base q (.inr hq)
 ·rw [set_block _ _ _ _ _ _ h1.blk]
  rfl
 ·exact (hk1.mono (fun _ _ f => f.elim)).trans (hS.mono (fun q _ e => .inl e))
 ·rcases hq with rfl | hq | hq
  ·exact .inl (.inl rfl)
  ·rcases hq with hq | hq
   ·exact .inr (new q hq)
   ·exact .inl (.inr (.inl (.inr hq)))
  ·exact .inl (.inr (.inr hq))
end Go.Proofs.YtjdbmjkidljhpaaGreatDoor

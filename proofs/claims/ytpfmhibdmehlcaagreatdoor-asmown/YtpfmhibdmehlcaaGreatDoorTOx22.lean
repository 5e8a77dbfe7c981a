import Derived.Test.YtpfmhibdmehlcaaGreatDoorTOx19
import Derived.Test.YtpfmhibdmehlcaaGreatDoorTOx21
import Derived.Test.YtpfmhibdmehlcaaGreatDoorTOx4
import Derived.Test.YtpfmhibdmehlcaaGreatDoorTOx2
import Derived.Deep.Strs
import Derived.Laws.IdiomStrings
import Derived.Test.YtpfmhibdmehlcaaGreatDoorTOx3
import Derived.Deep.QuietTactic
import Derived.BigQuiet
import Derived.Test.YtpfmhibdmehlcaaGreatDoorTOx15
import Derived.Test.YtpfmhibdmehlcaaGreatDoorTOx9
import Derived.Test.YtpfmhibdmehlcaaGreatDoorTOx6
namespace Go.Proofs.YtpfmhibdmehlcaaGreatDoor
open Go.RowKit Go.Deep
set_option linter.unusedVariables false
set_option linter.unusedSimpArgs false
set_option maxRecDepth 100000
theorem three_oneA (a b c : Value) (ha : a.oneCell' = true) (hb : b.oneCell' = true) (hc : c.oneCell' = true) : #[a, b, c].all (·.oneCell') = true := by
 simp [ha, hb, hc]
def L1 (w1 wx : World) (gq gd nd : Nat) (mem : Int) (xs : List Int) : Prop := wx.heap[gq]? = some (.cells #[.int .i64 mem, .slice (some ⟨gd, 0, none⟩) nd (nd + 67), .slice none 0 0] 25 (0, 0)) ∧ Lent2 wx gd xs 67 ∧ Kept (fun _ => False) w1 wx ∧ w1.heap.size ≤ gq ∧ w1.heap.size ≤ gd ∧ gq ≠ gd
structure LdK (w wr : World) (gx gr gq gd gl nd : Nat) (BX : Array Value) (p : PG) (cgs : List Nat) (k : Nat) : Prop where
 box : wr.heap[gx]? = some (.cells BX 25 (0, 0))
 res : wr.heap[gr]? = some (.cells #[.int .i64 0, .slice none 0 0, .slice none 0 0] 25 (0, 0))
 q : wr.heap[gq]? = some (.cells #[.int .i64 p.mem, .slice (some ⟨gd, 0, none⟩) nd (nd + 67), .slice none 0 0] 25 (0, 0))
 lp : LentP wr gd gl cgs p k
 kept : Kept (fun _ => False) w wr
 lt : ∀ cg ∈ cgs, cg < wr.heap.size
def LendR (p : PG) (w : World) (e : Ending) (w' : World) : Prop := ∃ gd gl cgs, e = .returned (lentV p gd gl) ∧ LentP w' gd gl cgs p (p.fns.length + 7) ∧ Kept (fun _ => False) w w' ∧ w.heap.size ≤ gd
set_option maxHeartbeats 32000000 in
theorem lend_p (v : Value) (p : PG) (w : World) (B : Nat) (h : PgIs w B v p) (hB : B ≤ w.heap.size) (ho : p.Ok) : Calls Tryz.prog 16 #[v] w (LendR p w) := by
 obtain ⟨dv, fv, rfl, hd, hdl, hf⟩ := h
 obtain ⟨dao, dc, rfl⟩ := hd.shape
 obtain ⟨fao, fc, rfl⟩ := hf.shape
 have HD := hid_of hd
 have HF := hid_of hf
 have HO := hid_of ho
 have HLV : Hid (∀ gd gl, lentV p gd gl = .agg #[.int .i64 p.mem, .slice (some ⟨gd, 0, none⟩) p.data.length (p.data.length + 67), .slice (some ⟨gl, 0, none⟩) p.fns.length (p.fns.length + 7)]) := fun _ _ => rfl
 have hbd := ho.data.2
 have hlf := ho.len
 clear hd hdl hf ho
 have HNF : Hid (p.fns.length = p.fns.length) := rfl
 have HND : Hid (p.data.length = p.data.length) := rfl
 have HME : Hid (p.mem = p.mem) := rfl
 obtain ⟨nd, hnd⟩ := nmd (p.data.length)
 obtain ⟨nf, hnf⟩ := nmd (p.fns.length)
 obtain ⟨mem, hmem⟩ := nmd (p.mem)
 rw [← hnd] at hbd HD HLV
 rw [← hnf] at hlf HF HLV
 rw [← hmem] at HLV
 rw [← hmem, ← hnd, ← hnf]
 clear HNF HND HME
 have HNF := hid_of hnf
 have HND := hid_of hnd
 have HMEM := hid_of hmem
 have HBD := hid_of hbd
 have HLF := hid_of hlf
 clear hnf hnd hmem hbd hlf
 have hk1 : Kept (fun _ => False) w ((w.alloc (.cells #[.int .i64 mem, .slice dao nd dc, .slice fao nf fc] 25)).alloc (.cells #[.int .i64 0, .slice none 0 0, .slice none 0 0] 25)) := ((Kept.refl _ _).alloc _).alloc _
 have hb1 : ((w.alloc (.cells #[.int .i64 mem, .slice dao nd dc, .slice fao nf fc] 25)).alloc (.cells #[.int .i64 0, .slice none 0 0, .slice none 0 0] 25)).heap[w.heap.size]? = some (.cells #[.int .i64 mem, .slice dao nd dc, .slice fao nf fc] 25 (0, 0)) := by
  rw [heap_alloc_old _ _ (by simp)]
  exact heap_alloc_new w _
 have hz1 : ((w.alloc (.cells #[.int .i64 mem, .slice dao nd dc, .slice fao nf fc] 25)).alloc (.cells #[.int .i64 0, .slice none 0 0, .slice none 0 0] 25)).heap[w.heap.size + 1]? = some (.cells #[.int .i64 0, .slice none 0 0, .slice none 0 0] 25 (0, 0)) := by
  have := heap_alloc_new (w.alloc (.cells #[.int .i64 mem, .slice dao nd dc, .slice fao nf fc] 25)) (.cells #[.int .i64 0, .slice none 0 0, .slice none 0 0] 25)
  simpa using this
 have hs1 : ((w.alloc (.cells #[.int .i64 mem, .slice dao nd dc, .slice fao nf fc] 25)).alloc (.cells #[.int .i64 0, .slice none 0 0, .slice none 0 0] 25)).heap.size = w.heap.size + 2 := by simp
 go_enter Tryz.func16, Tryz.ntmps16
 go_upto_region 1 with fail
 generalize (w.alloc (.cells #[.int .i64 mem, .slice dao nd dc, .slice fao nf fc] 25)).alloc (.cells #[.int .i64 0, .slice none 0 0, .slice none 0 0] 25) = w1 at *
 obtain ⟨gx, hgx⟩ := nmd (w.heap.size)
 rw [← hgx] at hb1 hz1 hs1 ⊢
 have HGX := hid_of hgx
 have HS1 := hid_of hs1
 have HX1 := hid_of hb1
 have HZ1 := hid_of hz1
 have HK1 := hid_of hk1
 clear hgx hs1 hb1 hz1 hk1
 go_cut [3] from 6 to 11 (fun v3 wx => ∃ gq gd, v3 = .pointer (some ⟨gq, 0, none⟩) ∧ L1 w1 wx gq gd nd mem p.data)
 case first =>
  have HLD : Hid (∀ W, Kept (fun _ => False) w1 W → Calls Tryz.prog 26 #[.slice dao nd dc] W fun e w' => e = .returned (.slice (some ⟨W.heap.size, 0, none⟩) nd (nd + 67)) ∧ Lent2 w' W.heap.size p.data 67 ∧ Kept (fun _ => False) W w') := fun W hW => by
   have := lend2_any (.slice dao nd dc) p.data W (HD.out.kept (HK1.out.trans hW) (fun _ _ f => f)) (by have := HBD.out; have := HND.out; omega)
   rw [← HND.out] at this
   exact this
  have HSM : Hid (∀ w', Kept (fun _ => False) w1 w' → w'.cell? ⟨gx, 0, none⟩ = some (.int .i64 mem) ∧ w'.cell? ⟨gx, 1, none⟩ = some (.slice dao nd dc)) := fun w' hw => by
   obtain ⟨c0, c1, _⟩ := look3 (box_kept hw HX1.out id)
   exact ⟨c0, c1⟩
  have hKwd : Kept (fun _ => False) w1 w1.drew := (Kept.refl _ _).drew
  refine wp_region_held_drew (S := fun w' => Kept (fun _ => False) w1 w') (by kernel_rfl) hKwd (fun hHeld => ?_)
  generalize w1.drew = wd at *
  clear hKwd
  iterate 4
   refine tkn (v := ?_) 0 rfl ?_ ?_; rotate_left 1
   ·intro w' hSw; have s0 := HSM.out w' hSw; obtain ⟨c0, c1⟩ := s0; go_simp; try with_reducible rfl
   try simp only [Act.put, tdy]
  have HW := hid_of hHeld
  refine wpAnyH_ready (rs := [4, 6]) (by kernel_rfl) (by simp) ?_
  refine (AllReadyH.cons rfl (fun K hK => ?_) (AllReadyH.cons rfl (fun K hK => ?_) AllReadyH.nil))
  ·go_simp
   refine (HLD.out wd HW.out).mono ?_
   rintro e w3 ⟨rfl, hl3, hk3⟩
   refine hK.out _ _ (HW.out.trans hk3) (fun hHeld => ?_)
   clear hK K
   try simp only [Act.put, tdy]
   generalize hgd : wd.heap.size = gd at hl3 ⊢
   refine tkn (v := .agg #[.int .i64 mem, .slice (some ⟨gd, 0, none⟩) nd (nd + 67), .slice none 0 0]) 0 rfl ?_ ?_
   ·intro w' hSw; go_simp; try with_reducible rfl
   try simp only [Act.put, tdy]
   refine rdy 6 rfl (fun K hK => ?_)
   go_simp
   refine hK.out _ _ (hHeld.alloc _) (fun hHeld => ?_)
   clear hK K
   try simp only [Act.put, tdy]
   have hq := heap_alloc_new w3 (.cells #[.int .i64 0, .slice none 0 0, .slice none 0 0] 25)
   have hka : Kept (fun _ => False) w3 (w3.alloc (.cells #[.int .i64 0, .slice none 0 0, .slice none 0 0] 25)) := (Kept.refl _ _).alloc _
   have hl4 := hl3.kept hka id
   have hdw : gd < w3.heap.size := by obtain ⟨cur, h0, _⟩ := hl3; exact (Array.getElem?_eq_some_iff.1 h0).1
   generalize hgq : w3.heap.size = gq at hq ⊢
   have hne : gq ≠ gd := by omega
   have hgq1 : w1.heap.size ≤ gq := by have := HW.out.size; have := hk3.size; omega
   have hgd1 : w1.heap.size ≤ gd := by have := HW.out.size; omega
   generalize w3.alloc (.cells #[.int .i64 0, .slice none 0 0, .slice none 0 0] 25) = w4 at *
   have hkr := kept_row w4 gq #[.int .i64 mem, .slice (some ⟨gd, 0, none⟩) nd (nd + 67), .slice none 0 0]
   have hk5 : Kept (fun _ => False) w1 (w4.setRow gq #[.int .i64 mem, .slice (some ⟨gd, 0, none⟩) nd (nd + 67), .slice none 0 0]) := hHeld.step hkr (fun i hi e => by omega)
   have HLX : Hid (L1 w1 (w4.setRow gq #[.int .i64 mem, .slice (some ⟨gd, 0, none⟩) nd (nd + 67), .slice none 0 0]) gq gd nd mem p.data) := ⟨setRow_heap w4 gq _ _ 25 _ hq, hl4.kept hkr (fun e => hne e.symm), hk5, hgq1, hgd1, hne⟩
   refine rdy 7 rfl (fun K hK => ?_)
   refine stp_store_row rfl 25 _ _ rfl gq #[.int .i64 mem, .slice (some ⟨gd, 0, none⟩) nd (nd + 67), .slice none 0 0] rfl rfl 25 _ hq size37 rfl (three_oneA _ _ _ rfl rfl rfl) ?_
   refine hK.out _ _ hk5 (fun hHeld => ?_)
   clear hK K
   try simp only [Act.put, tdy]
   refine wpAnyH_done (by kernel_rfl) ?_ _
   go_wp2
   go_meet
   exact ⟨gq, gd, rfl, HLX.out⟩
  ·go_simp
   refine hK.out _ _ (HW.out.alloc _) (fun hHeld => ?_)
   clear hK K
   try simp only [Act.put, tdy]
   have hq := heap_alloc_new wd (.cells #[.int .i64 0, .slice none 0 0, .slice none 0 0] 25)
   have hka : Kept (fun _ => False) wd (wd.alloc (.cells #[.int .i64 0, .slice none 0 0, .slice none 0 0] 25)) := (Kept.refl _ _).alloc _
   have hs3 : (wd.alloc (.cells #[.int .i64 0, .slice none 0 0, .slice none 0 0] 25)).heap.size = wd.heap.size + 1 := by simp
   generalize hgq : wd.heap.size = gq at hq hs3 ⊢
   have hgq1 : w1.heap.size ≤ gq := by have := HW.out.size; omega
   generalize wd.alloc (.cells #[.int .i64 0, .slice none 0 0, .slice none 0 0] 25) = w3 at *
   refine rdy 4 rfl (fun K hK => ?_)
   go_simp
   refine (HLD.out w3 (HW.out.trans hka)).mono ?_
   rintro e w4 ⟨rfl, hl3, hk3⟩
   refine hK.out _ _ ((HW.out.trans hka).trans hk3) (fun hHeld => ?_)
   clear hK K
   try simp only [Act.put, tdy]
   obtain ⟨gd, hgd⟩ := nmd (w3.heap.size)
   rw [← hgd] at hl3 ⊢
   have hne : gq ≠ gd := by omega
   have hgd1 : w1.heap.size ≤ gd := by omega
   have hq4 := box_kept hk3 hq id
   clear hgd hs3 hgq
   refine tkn (v := .agg #[.int .i64 mem, .slice (some ⟨gd, 0, none⟩) nd (nd + 67), .slice none 0 0]) 0 rfl ?_ ?_
   ·intro w' hSw; go_simp; try with_reducible rfl
   try simp only [Act.put, tdy]
   have hkr := kept_row w4 gq #[.int .i64 mem, .slice (some ⟨gd, 0, none⟩) nd (nd + 67), .slice none 0 0]
   have hk5 : Kept (fun _ => False) w1 (w4.setRow gq #[.int .i64 mem, .slice (some ⟨gd, 0, none⟩) nd (nd + 67), .slice none 0 0]) := hHeld.step hkr (fun i hi e => by omega)
   have HLX : Hid (L1 w1 (w4.setRow gq #[.int .i64 mem, .slice (some ⟨gd, 0, none⟩) nd (nd + 67), .slice none 0 0]) gq gd nd mem p.data) := ⟨setRow_heap w4 gq _ _ 25 _ hq4, hl3.kept hkr (fun e => hne e.symm), hk5, hgq1, hgd1, hne⟩
   refine rdy 7 rfl (fun K hK => ?_)
   refine stp_store_row rfl 25 _ _ rfl gq #[.int .i64 mem, .slice (some ⟨gd, 0, none⟩) nd (nd + 67), .slice none 0 0] rfl rfl 25 _ hq4 size37 rfl (three_oneA _ _ _ rfl rfl rfl) ?_
   refine hK.out _ _ hk5 (fun hHeld => ?_)
   clear hK K
   try simp only [Act.put, tdy]
   refine wpAnyH_done (by kernel_rfl) ?_ _
   go_wp2
   go_meet
   exact ⟨gq, gd, rfl, HLX.out⟩
 case rest =>
  obtain ⟨gq, gd, rfl, hl⟩ := hcut
  obtain ⟨hq, hdat, hk2, hgq, hgd, hne⟩ := hl
  have HQ2 := hid_of hq
  have HDT2 := hid_of hdat
  have HKa := hid_of (HK1.out.trans hk2)
  have HXX := hid_of (box_kept hk2 HX1.out id)
  have HZZ := hid_of (box_kept hk2 HZ1.out id)
  have HNE : Hid (w.heap.size ≤ gd ∧ gx + 2 ≤ gd ∧ gx + 2 ≤ gq ∧ gq ≠ gd ∧ gq < wc.heap.size ∧ gd < wc.heap.size ∧ gx < gq) := by
   have h1 := HGX.out
   have h2 := HS1.out
   have h3 := (Array.getElem?_eq_some_iff.1 hq).1
   have h4 : gd < wc.heap.size := by obtain ⟨cur, h0, _⟩ := hdat; exact (Array.getElem?_eq_some_iff.1 h0).1
   exact ⟨by omega, by omega, by omega, hne, h3, h4, by omega⟩
  clear hq hdat hk2 hgq hgd hne HX1 HZ1 HK1
  obtain ⟨c0, c1, c2, _⟩ := look3 HXX.out
  have mk := make_fns wc (nf + 7) (by have := HLF.out; omega)
  rw [show ((nf + 7 : Nat) : Int) = (nf : Int) + 7 from by omega] at mk
  have hw1 : IntKind.i64.wrap ((nf : Int) + 7) = (nf : Int) + 7 := by have := HLF.out; simp [IntKind.wrap, IntKind.bits, IntKind.signed]; omega
  have hkA : Kept (fun _ => False) wc (wc.alloc (.cells (zfn ((nf + 7) * 4)) 51)) := (Kept.refl _ _).alloc _
  have hbz := heap_alloc_new wc (.cells (zfn ((nf + 7) * 4)) 51)
  have hth : (wc.alloc (.cells (zfn ((nf + 7) * 4)) 51)).there wc.heap.size 0 ((p.fns.length + 7) * 4) := fun j hj => by
   refine ⟨?_, frozen_block _ _ _ _ _ hbz⟩
   rw [cell_block _ _ _ _ _ _ hbz, Array.getElem?_eq_getElem (by rw [zfn_size, HNF.out]; omega)]
   rfl
  have HLN : Hid (LdK w (wc.alloc (.cells (zfn ((nf + 7) * 4)) 51)) gx (gx + 1) gq gd wc.heap.size nd #[.int .i64 mem, .slice dao nd dc, .slice fao nf fc] p [] 0) := ⟨box_kept hkA HXX.out id, box_kept hkA HZZ.out id, by rw [← HMEM.out]; exact box_kept hkA HQ2.out id, ⟨HDT2.out.kept hkA id, HNE.out.2.2.2.2.2.1, ⟨hth, fun i f cg hi => absurd hi (by omega), fun i h0 h1 => absurd h1 (by omega)⟩, fun i f cg _ hc => by simp at hc, by simp, List.Pairwise.nil, fun cg hc => by simp at hc⟩, HKa.out.trans hkA, fun cg hc => by simp at hc⟩
  clear hkA hbz hth HQ2 HDT2 HXX HZZ
  have HGL : Hid (gq < wc.heap.size ∧ gx + 1 < wc.heap.size ∧ w.heap.size ≤ wc.heap.size) := ⟨HNE.out.2.2.2.2.1, by have h1 := HNE.out.2.2.1; have h2 := HNE.out.2.2.2.2.1; omega, HKa.out.size⟩
  go_upto_region 3 with fail
  clear mk hw1 c0 c1 c2
  generalize wc.alloc (.cells (zfn ((nf + 7) * 4)) 51) = w5 at *
  generalize wc.heap.size = gl at *
  go_wp2_with fail
  go_loopw [5] (fun iv wr => ∃ (k : Nat) (cgs : List Nat), iv = .int .i64 (k : Int) ∧ Hid (k ≤ nf + 7) ∧ Hid (LdK w wr gx (gx + 1) gq gd gl nd #[.int .i64 mem, .slice dao nd dc, .slice fao nf fc] p cgs k)) (fun iv _ => nf + 7 - (intOf iv).toNat)
  case atStart => exact ⟨0, [], rfl, Nat.zero_le _, HLN⟩
  case round =>
   clear HLN
   obtain ⟨k, cgs, rfl, HI, HLK⟩ := hrel
   have hnfB : (nf : Int) ≤ 10000000000000 := by have := HLF.out; omega
   by_cases hlt : k < nf + 7
   ·have hltI : (k : Int) < (nf : Int) + 7 := by omega
    have hth : wr.there gl (k * 4) (#[.int .i64 (-70 - (k : Int)), .int .i64 0, .int .i64 0, .slice none 0 0] : Array Value).size := there_sub HLK.out.lp.fns.there (by show k * 4 + 4 ≤ _; rw [← HNF.out]; omega)
    obtain ⟨hP1, hP2⟩ := HLK.out.lp.fns.put (by rw [← HNF.out]; exact hlt) (#[.int .i64 (-70 - (k : Int)), .int .i64 0, .int .i64 0, .slice none 0 0] : Array Value).toList rfl
    have hk6 := kept_cells gl (#[.int .i64 (-70 - (k : Int)), .int .i64 0, .int .i64 0, .slice none 0 0] : Array Value).toList (k * 4) wr
    have HP1 := hid_of hP1
    have HP2 := hid_of hP2
    have HK6 := hid_of hk6
    clear hP1 hP2 hk6
    go_upto_region 7 with (refine wpList_store_mid rfl 51 _ _ rfl gl (k * 4) #[.int .i64 (-70 - (k : Int)), .int .i64 0, .int .i64 0, .slice none 0 0] rfl rfl hth size78 (four_oneA _ _ _ _ rfl rfl rfl rfl) ?_)
    clear hth
    generalize wr.setCells gl (k * 4) (#[.int .i64 (-70 - (k : Int)), .int .i64 0, .int .i64 0, .slice none 0 0] : Array Value).toList = w6 at *
    have hgo := HGL.out
    have HB6 := hid_of (box_kept HK6.out HLK.out.box (by omega))
    have HR6 := hid_of (box_kept HK6.out HLK.out.res (by omega))
    have HQ6 := hid_of (box_kept HK6.out HLK.out.q (by omega))
    have HKw6 : Hid (Kept (fun _ => False) w w6) := HLK.out.kept.step HK6.out (fun i hi e => by omega)
    have HLT6 : Hid (∀ cg ∈ cgs, cg < w6.heap.size) := fun cg hc => Nat.lt_of_lt_of_le (HLK.out.lt cg hc) HK6.out.size
    have HD6 := hid_of (HLK.out.lp.dat.kept HK6.out (fun e => by have := HLK.out.lp.dl; omega))
    have HC6 : Hid (∀ (i : Nat) (f : FN) (cg : Nat), p.fns[i]? = some f → cgs[i]? = some cg → LentI w6 cg f.code 67) := fun i f cg hf hc => (HLK.out.lp.code i f cg hf hc).kept HK6.out (fun e => by have := HLK.out.lp.lo cg (List.mem_of_getElem? hc); omega)
    have HLP := hid_of HLK.out.lp
    obtain ⟨c0, c1, c2, _⟩ := look3 HB6.out
    clear HLK HK6
    by_cases hlk : k < nf
    ·have hlkI : (k : Int) < (nf : Int) := by omega
     have hlk' : k < p.fns.length := by rw [← HNF.out]; exact hlk
     obtain ⟨g, o, f, e1, hgB, hfi, hfa⟩ := HF.out.at (i := k) hlk'
     subst e1
     obtain ⟨cao, cc, x0, x1, x2, x3, hri, hcl⟩ := fn_read hfa
     have hlc := (HO.out.fns f (List.mem_of_getElem? hfi)).len
     have y0 := HKw6.out.cell x0 id
     have y1 := HKw6.out.cell x1 id
     have y2 := HKw6.out.cell x2 id
     have y3 := HKw6.out.cell x3 id
     have hgg : g ≠ gl := by omega
     have HCF : Hid (f.cells (.slice cao f.code.length cc) = (#[.int .i64 f.a, .int .i64 f.l, .int .i64 f.r, .slice cao f.code.length cc] : Array Value).toList) := rfl
     have HFI := hid_of hfi
     have HRI := hid_of hri
     have HLC := hid_of hlc
     have hlen : cgs.length = k := by have := HLP.out.len; omega
     have HLE := hid_of hlen
     clear x0 x1 x2 x3 hfa hfi hri hlc hcl hlen
     have hth : w6.there gl (k * 4) (#[.int .i64 f.a, .int .i64 f.l, .int .i64 f.r, .slice cao f.code.length cc] : Array Value).size := there_sub HP1.out.there (by show k * 4 + 4 ≤ _; omega)
     obtain ⟨hP1, hP2⟩ := HP1.out.put (by omega) (#[.int .i64 f.a, .int .i64 f.l, .int .i64 f.r, .slice cao f.code.length cc] : Array Value).toList rfl
     have hk7 := kept_cells gl (#[.int .i64 f.a, .int .i64 f.l, .int .i64 f.r, .slice cao f.code.length cc] : Array Value).toList (k * 4) w6
     have HP7 := hid_of hP1
     have HR7 : Hid ((w6.setCells gl (k * 4) (#[.int .i64 f.a, .int .i64 f.l, .int .i64 f.r, .slice cao f.code.length cc] : Array Value).toList).rangeAt gl (k * 4) (f.cells (.slice cao f.code.length cc))) := by show World.rangeAt _ _ _ _; rw [HCF.out]; exact hP2
     have HK7 := hid_of hk7
     have HC2 := hid_of (cell_block _ gx 2 _ _ _ (box_kept hk7 HB6.out (by omega)))
     have HY3 := hid_of (hk7.cell y3 hgg)
     clear hP1 hP2 hk7 HP1 HP2
     go_upto_region 9 with (refine wpList_store_mid rfl 51 _ _ rfl gl (k * 4) #[.int .i64 f.a, .int .i64 f.l, .int .i64 f.r, .slice cao f.code.length cc] rfl rfl hth size78 (four_oneA _ _ _ _ rfl rfl rfl rfl) ?_)
     clear hth c0 c1 c2 y0 y1 y2 y3
     generalize w6.setCells gl (k * 4) (#[.int .i64 f.a, .int .i64 f.l, .int .i64 f.r, .slice cao f.code.length cc] : Array Value).toList = w7 at *
     have HKw7 : Hid (Kept (fun _ => False) w w7) := HKw6.out.step HK7.out (fun i hi e => by omega)
     have HLI := hid_of (lendI_any cao cc f.code w7 (HRI.out.kept HKw7.out (fun _ _ f => f)) (by have := HLC.out; omega))
     have c2 := HC2.out
     have y3 := HY3.out
     go_wp2_with fail
     refine HLI.out.mono ?_
     rintro e w8 ⟨rfl, hl8, hk8⟩
     clear c2 y3 HLI
     have z3 : w8.cell? ⟨gl, k * 4 + 3, none⟩ = some (.slice cao f.code.length cc) := hk8.cell (HR7.out 3 _ rfl) id
     have zf : w8.frozen? ⟨gl, k * 4 + 3, none⟩ = false := by
      have := ((HP7.out.kept hk8 id).there (k * 4 + 3) (by omega)).2
      rwa [Nat.zero_add] at this
     have hcgl : gl < w7.heap.size := HP7.out.lt
     have hG9 := (HP7.out.kept hk8 id).code HLE.out HFI.out (fun j u hj => hk8.cell (HR7.out j u hj) id) w7.heap.size
     have hks := kept_set w8 gl (k * 4 + 3) (.slice (some ⟨w7.heap.size, 0, none⟩) f.code.length (f.code.length + 67))
     have hcw : w7.heap.size < w8.heap.size := by
      have h1 := (hl8.there 0 (by omega)).1
      cases hc : w8.cell? ⟨w7.heap.size, 0 + 0, none⟩ with
      | none => rw [hc] at h1; cases h1
      | some v => exact World.block_lt_of_cell? w8 _ hc
     have HLK9 : Hid (LdK w (w8.setCell ⟨gl, k * 4 + 3, none⟩ (.slice (some ⟨w7.heap.size, 0, none⟩) f.code.length (f.code.length + 67))) gx (gx + 1) gq gd gl nd #[.int .i64 mem, .slice dao nd dc, .slice (some ⟨g, o, none⟩) nf fc] p (cgs ++ [w7.heap.size]) (k + 1)) := by
      have hk78 := HK7.out.step hk8 (fun i hi e => e.elim)
      have hlt7 : ∀ cg ∈ cgs, cg < w7.heap.size := fun cg hc => Nat.lt_of_lt_of_le (HLT6.out cg hc) HK7.out.size
      refine ⟨box_kept hks (box_kept hk8 (box_kept HK7.out HB6.out (by omega)) id) (by omega), box_kept hks (box_kept hk8 (box_kept HK7.out HR6.out (by omega)) id) (by omega), box_kept hks (box_kept hk8 (box_kept HK7.out HQ6.out (by omega)) id) (by omega), ⟨((HD6.out.kept HK7.out (fun e => by have := HLP.out.dl; omega)).kept hk8 id).kept hks (fun e => by have := HLP.out.dl; omega), HLP.out.dl, hG9, fun i F cg hF hc => ?_, ?_, ?_, fun cg hc => ?_⟩, (HKw7.out.trans hk8).step hks (fun i hi e => by omega), fun cg hc => ?_⟩
      ·have hil : i < p.fns.length := (List.getElem?_eq_some_iff.1 hF).1
       by_cases hik : i < k
       ·rw [List.getElem?_append_left (by rw [HLE.out]; exact hik)] at hc
        have hm := HLP.out.lo cg (List.mem_of_getElem? hc)
        exact (((HC6.out i F cg hF hc).kept HK7.out (by omega)).kept hk8 id).kept hks (by omega)
       ·have hc2 := hc
        rw [List.getElem?_append_right (by rw [HLE.out]; omega), HLE.out] at hc2
        have hik0 : i = k := by
         have := (List.getElem?_eq_some_iff.1 hc2).1
         simp at this
         omega
        subst hik0
        rw [Nat.sub_self] at hc2
        cases hc2
        have ef : F = f := by have := HFI.out; rw [hF] at this; exact Option.some.inj this
        subst ef
        exact hl8.kept hks (by omega)
      ·rw [List.length_append, HLE.out]; simp; omega
      ·rw [List.pairwise_append]
       exact ⟨HLP.out.up, List.pairwise_singleton _ _, fun a ha b hb => by
        rw [List.mem_singleton.1 hb]
        exact hlt7 a ha⟩
      ·rcases List.mem_append.1 hc with hc | hc
       ·exact HLP.out.lo cg hc
       ·rw [List.mem_singleton.1 hc]; exact hcgl
      ·rcases List.mem_append.1 hc with hc | hc
       ·have h1 := hlt7 cg hc
        have h2 := hks.size
        have h3 := hk8.size
        omega
       ·rw [List.mem_singleton.1 hc]
        have h2 := hks.size
        omega
     clear hks hG9 hl8 hk8 hcw hcgl HP7 HR7 HC2 HY3 HB6 HR6 HQ6 HC6 HD6 HLT6 HLE HRI HLC hgo
     generalize hcg : w7.heap.size = cg at HLK9 ⊢
     clear hcg
     go_wp2
     go_roundw
     case rel => exact ⟨k + 1, _, by go_num, hlt, HLK9⟩
     case measure => simp [intOf]; omega
    ·have hnlk : ¬ (k : Int) < (nf : Int) := by omega
     have HLK9 : Hid (LdK w w6 gx (gx + 1) gq gd gl nd #[.int .i64 mem, .slice dao nd dc, .slice fao nf fc] p cgs (k + 1)) :=
      ⟨HB6.out, HR6.out, HQ6.out, ⟨HD6.out, HLP.out.dl, HP1.out.mark (by have := HNF.out; omega) HP2.out, HC6.out, by have := HLP.out.len; have := HNF.out; omega, HLP.out.up, HLP.out.lo⟩, HKw6.out, HLT6.out⟩
     clear HB6 HR6 HQ6 HD6 HP1 HP2 HC6 HLT6 hlk hgo
     go_wp2
     go_roundw
     case rel => exact ⟨k + 1, _, by go_num, hlt, HLK9⟩
     case measure => simp [intOf]; omega
   ·have hkn : k = nf + 7 := by have := HI.out; omega
    subst hkn
    have hnlt : ¬ (((nf + 7 : Nat)) : Int) < (nf : Int) + 7 := by omega
    have hgo := HGL.out
    obtain ⟨c0, c1, c2, _⟩ := look3 HLK.out.box
    obtain ⟨q0, q1, q2, qf0, qf1, qf2⟩ := look3 HLK.out.q
    have hks := kept_set wr gq 2 (.slice (some ⟨gl, 0, none⟩) nf (nf + 7))
    have hq2 := set_block wr gq 2 _ _ _ HLK.out.q (.slice (some ⟨gl, 0, none⟩) nf (nf + 7))
    have HQ9 : Hid ((wr.setCell ⟨gq, 2, none⟩ (.slice (some ⟨gl, 0, none⟩) nf (nf + 7))).heap[gq]? = some (.cells #[.int .i64 mem, .slice (some ⟨gd, 0, none⟩) nd (nd + 67), .slice (some ⟨gl, 0, none⟩) nf (nf + 7)] 25 (0, 0))) := by rw [HMEM.out]; exact hq2
    have HR9 := hid_of (box_kept hks HLK.out.res (by have := HNE.out; omega))
    have HLP9 := hid_of (HLK.out.lp.kept hks (by have := HNE.out; omega) (fun q hq e => by omega))
    have HK9 := hid_of (HLK.out.kept.step hks (fun i hi e => by have := HNE.out; have := HGX.out; omega))
    clear hks hq2 hlt HLK
    go_upto_region 11 with fail
    clear c0 c1 c2 q0 q1 q2 qf0 qf1 qf2
    generalize wr.setCell ⟨gq, 2, none⟩ (.slice (some ⟨gl, 0, none⟩) nf (nf + 7)) = w9 at *
    obtain ⟨q0, q1, q2, _⟩ := look3 HQ9.out
    have hkr := kept_row w9 (gx + 1) #[.int .i64 mem, .slice (some ⟨gd, 0, none⟩) nd (nd + 67), .slice (some ⟨gl, 0, none⟩) nf (nf + 7)]
    have HRR := hid_of (setRow_heap w9 (gx + 1) _ #[.int .i64 mem, .slice (some ⟨gd, 0, none⟩) nd (nd + 67), .slice (some ⟨gl, 0, none⟩) nf (nf + 7)] 25 _ HR9.out)
    have HLPF := hid_of (HLP9.out.kept hkr (by have := HNE.out; omega) (fun q hq e => by omega))
    have HKF := hid_of (HK9.out.step hkr (fun i hi e => by have := HGX.out; omega))
    clear hkr HLP9 HK9 hgo
    go_wp2_with (refine wpList_store_row rfl 25 _ _ rfl (gx + 1) #[.int .i64 mem, .slice (some ⟨gd, 0, none⟩) nd (nd + 67), .slice (some ⟨gl, 0, none⟩) nf (nf + 7)] rfl rfl 25 _ HR9.out size37 rfl (three_oneA _ _ _ rfl rfl rfl) ?_)
    refine bodyPost_ret (v := .agg #[.int .i64 mem, .slice (some ⟨gd, 0, none⟩) nd (nd + 67), .slice (some ⟨gl, 0, none⟩) nf (nf + 7)]) (results_cell_row (by rfl) _ _ (gx + 1) 25 _ (0, 0) _ (by rfl) HRR.out Tryz.underlying25 rfl size37) rfl ?_
    exact ⟨gd, gl, cgs, by rw [HLV.out], by rw [← HNF.out]; exact HLPF.out, HKF.out, HNE.out.1⟩
theorem Lent2.isB {w : World} {g c : Nat} {xs : List Int} {j : Nat} (h : Lent2 w g xs j) : IsB w (.slice (some ⟨g, 0, none⟩) xs.length c) xs := by
 obtain ⟨cur, h0, h1, h2, _⟩ := h
 refine .inr ⟨g, 0, c, rfl, fun i hi => ?_⟩
 rw [cell_block _ _ _ _ _ _ h0, Nat.zero_add]
 exact h2 i hi
theorem Lent2.lt {w : World} {g : Nat} {xs : List Int} {j : Nat} (h : Lent2 w g xs j) : g < w.heap.size := by
 obtain ⟨cur, h0, _⟩ := h
 exact (Array.getElem?_eq_some_iff.1 h0).1
theorem LentI.lt {w : World} {g : Nat} {ys : List IN} {j : Nat} (h : LentI w g ys j) : g < w.heap.size := by
 have h1 := (h.there 0 (by omega)).1
 cases hc : w.cell? ⟨g, 0 + 0, none⟩ with
 | none => rw [hc] at h1; cases h1
 | some v => exact World.block_lt_of_cell? w _ hc
theorem LentP.pg {w : World} {gd gl : Nat} {cgs : List Nat} {p : PG} (h : LentP w gd gl cgs p (p.fns.length + 7)) : PgIs w w.heap.size (lentV p gd gl) p := by
 refine ⟨_, _, rfl, h.dat.isB, fun q hq => ?_, .inr ⟨gl, 0, _, rfl, h.fns.lt, fun i f hf => ?_⟩⟩
 ·simp only [Value.ownBlock, Option.some.injEq] at hq
  subst hq
  exact h.dat.lt
 ·have hil : i < p.fns.length := (List.getElem?_eq_some_iff.1 hf).1
  have hlen := h.len
  have hcg : cgs[i]? = some (cgs[i]'(by omega)) := List.getElem?_eq_getElem _
  have hc := h.code i f _ hf hcg
  refine ⟨_, by rw [Nat.zero_add]; exact h.fns.ents i f _ (by omega) hf hcg, hc.row, fun q hq _ => ?_⟩
  simp only [Value.ownBlock, Option.some.injEq] at hq
  subst hq
  exact hc.lt
end Go.Proofs.YtpfmhibdmehlcaaGreatDoor
namespace Go.Proofs.YtpfmhibdmehlcaaGreatDoor
open Go.RowKit
set_option linter.unusedVariables false
set_option linter.unusedSimpArgs false
set_option maxRecDepth 100000
set_option maxHeartbeats 4000000 in
theorem sysname_any (s : ByteArray) (w : World) :
  Calls Tryz.prog 103 #[.string s] w fun e w' => e = .returned (namedV sysL s) ∧ Kept (fun _ => False) w w' := by
 go_enter Tryz.func103, Tryz.ntmps103
 go_wp2_with fail
 refine (sys_any _).mono ?_
 rintro e w1 ⟨rfl, hk1⟩
 have HK1 := hid_of hk1
 clear hk1
 obtain ⟨hO, hX, hK⟩ := new_row w1 z63 (tcells sysL).toArray 174
 go_upto_region 2 with (first | refine wpList_to rfl (some 4) rfl (.pointer (some ⟨w1.heap.size, 0, none⟩)) (w1.alloc (.cells z63 174)) (by kernel_rfl) ?_ | refine wpList_store_row rfl 174 _ _ rfl w1.heap.size (tcells sysL).toArray rfl rfl 174 _ hO size63 (by kernel_rfl) one63 ?_)
 clear hO
 generalize (w1.alloc (.cells z63 174)).setRow w1.heap.size (tcells sysL).toArray = w2 at *
 have HK2 := hid_of (HK1.out.trans hK)
 have HR := hid_of (named_any sysL w1.heap.size 174 s w2 hX (by decide))
 clear hK HK1
 go_wp2_with fail
 refine HR.out.mono ?_
 rintro e w3 ⟨rfl, hk3⟩
 have HK3 := hid_of (HK2.out.trans hk3)
 clear hk3 HR HK2 hX
 by_cases h : nameIx sysL s < sysL.length
 ·have HV := hid_of (show namedV sysL s = _ from if_pos h)
  rw [HV.out]
  generalize nameIx sysL s = k at *
  clear h
  go_wp2
  go_ret2
  exact ⟨congrArg Ending.returned HV.out.symm, HK3.out⟩
 ·have HV := hid_of (show namedV sysL s = _ from if_neg h)
  rw [HV.out]
  clear h
  go_wp2
  go_ret2
  exact ⟨congrArg Ending.returned HV.out.symm, HK3.out⟩
end Go.Proofs.YtpfmhibdmehlcaaGreatDoor

import Derived.Test.YtgoabnehdmdikaaGreatDoorTLg34
import Derived.Test.YtgoabnehdmdikaaGreatDoorTLg37
import Derived.Test.YtgoabnehdmdikaaGreatDoorTLg33
import Derived.Test.YtgoabnehdmdikaaGreatDoorTLg6
import Derived.Lib.OthersKept
import Derived.Test.YtgoabnehdmdikaaGreatDoorTLg7
import Derived.Test.YtgoabnehdmdikaaGreatDoorTLg35
set_option linter.unusedVariables false
set_option linter.unusedSimpArgs false
set_option maxRecDepth 100000
set_option maxHeartbeats 64000000
namespace Go.Proofs.YtgoabnehdmdikaaGreatDoor
open Go.RowKit Go.Deep
theorem Zfa (a b c : Value) (ha : a.oneCell' = true) (hb : b.oneCell' = true) (hc : c.oneCell' = true) : #[a, b, c].all (·.oneCell') = true := by
 simp [ha, hb, hc]
def L1 (w1 wx : World) (gq gd nd : Nat) (mem : Int) (xs : List Int) : Prop := wx.heap[gq]? = some (.cells #[.int .i64 mem, .slice (some ⟨gd, 0, none⟩) nd (nd + 67), .slice none 0 0] 26 (0, 0)) ∧ Lent2 wx gd xs 67 ∧ Kept nF w1 wx ∧ w1.heap.size ≤ gq ∧ w1.heap.size ≤ gd ∧ gq ≠ gd
structure LdK (w wr : World) (gx gr gq gd gl nd : Nat) (BX : Array Value) (p : PG) (cgs : List Nat) (k : Nat) : Prop where
 box : wr.heap[gx]? = some (.cells BX 26 (0, 0))
 res : wr.heap[gr]? = some (.cells #[.int .i64 0, .slice none 0 0, .slice none 0 0] 26 (0, 0))
 q : wr.heap[gq]? = some (.cells #[.int .i64 p.mem, .slice (some ⟨gd, 0, none⟩) nd (nd + 67), .slice none 0 0] 26 (0, 0))
 lp : LentP wr gd gl cgs p k
 kept : Kept nF w wr
 lt : ∀ cg ∈ cgs, cg < wr.heap.size
def Zxc (p : PG) (w : World) (e : Ending) (w' : World) : Prop := ∃ gd gl cgs, e = .returned (Ze7 p gd gl) ∧ LentP w' gd gl cgs p (p.fns.length + 7) ∧ Kept nF w w' ∧ w.heap.size ≤ gd
theorem Zwe (v : Value) (p : PG) (w : World) (B : Nat) (h : PgIs w B v p) (hB : B ≤ w.heap.size) (ho : p.Ok) : Calls Tryz.prog 13 #[v] w (Zxc p w) := by
 obtain ⟨dv, fv, rfl, hd, hdl, hf⟩ := h
 obtain ⟨dao, dc, rfl⟩ := hd.shape
 obtain ⟨fao, fc, rfl⟩ := hf.shape
 have HD := Za hd
 have HF := Za hf
 have HO := Za ho
 have HLV : Hid (∀ gd gl, Ze7 p gd gl = .agg #[.int .i64 p.mem, .slice (some ⟨gd, 0, none⟩) p.data.length (p.data.length + 67), .slice (some ⟨gl, 0, none⟩) p.fns.length (p.fns.length + 7)]) := fun _ _ => rfl
 have hbd := ho.data.2
 have hlf := ho.len
 clear hd hdl hf ho
 have HNF : Hid (p.fns.length = p.fns.length) := rfl
 have HND : Hid (p.data.length = p.data.length) := rfl
 have HME : Hid (p.mem = p.mem) := rfl
 obtain ⟨nd, hnd⟩ := nmd (p.data.length)
 obtain ⟨nf, hnf⟩ := nmd (p.fns.length)
 obtain ⟨mem, hmem⟩ := nmd (p.mem)
 rw [← hnd] at hbd HD HLV
 rw [← hnf] at hlf HF HLV
 rw [← hmem] at HLV
 rw [← hmem, ← hnd, ← hnf]
 clear HNF HND HME
 have HNF := Za hnf
 have HND := Za hnd
 have HMEM := Za hmem
 have HBD := Za hbd
 have HLF := Za hlf
 clear hnf hnd hmem hbd hlf
 have hk1 : Kept nF w ((w.alloc (.cells #[.int .i64 mem, .slice dao nd dc, .slice fao nf fc] 26)).alloc (.cells #[.int .i64 0, .slice none 0 0, .slice none 0 0] 26)) := ((Kept.refl _ _).alloc _).alloc _
 have hb1 : ((w.alloc (.cells #[.int .i64 mem, .slice dao nd dc, .slice fao nf fc] 26)).alloc (.cells #[.int .i64 0, .slice none 0 0, .slice none 0 0] 26)).heap[w.heap.size]? = some (.cells #[.int .i64 mem, .slice dao nd dc, .slice fao nf fc] 26 (0, 0)) := by
  rw [heap_alloc_old _ _ (by simp)]
  exact heap_alloc_new w _
 have hz1 : ((w.alloc (.cells #[.int .i64 mem, .slice dao nd dc, .slice fao nf fc] 26)).alloc (.cells #[.int .i64 0, .slice none 0 0, .slice none 0 0] 26)).heap[w.heap.size + 1]? = some (.cells #[.int .i64 0, .slice none 0 0, .slice none 0 0] 26 (0, 0)) := by
  have := heap_alloc_new (w.alloc (.cells #[.int .i64 mem, .slice dao nd dc, .slice fao nf fc] 26)) (.cells #[.int .i64 0, .slice none 0 0, .slice none 0 0] 26)
  simpa using this
 have hs1 : ((w.alloc (.cells #[.int .i64 mem, .slice dao nd dc, .slice fao nf fc] 26)).alloc (.cells #[.int .i64 0, .slice none 0 0, .slice none 0 0] 26)).heap.size = w.heap.size + 2 := by simp
 go_enter Tryz.func13, Tryz.ntmps13
 go_upto_region 1 with fail
 generalize (w.alloc (.cells #[.int .i64 mem, .slice dao nd dc, .slice fao nf fc] 26)).alloc (.cells #[.int .i64 0, .slice none 0 0, .slice none 0 0] 26) = w1 at *
 obtain ⟨gx, hgx⟩ := nmd (w.heap.size)
 rw [← hgx] at hb1 hz1 hs1 ⊢
 have HGX := Za hgx
 have HS1 := Za hs1
 have HX1 := Za hb1
 have HZ1 := Za hz1
 have HK1 := Za hk1
 clear hgx hs1 hb1 hz1 hk1
 go_cut [3] from 6 to 11 (fun v3 wx => ∃ gq gd, v3 = .pointer (some ⟨gq, 0, none⟩) ∧ L1 w1 wx gq gd nd mem p.data)
 case first =>
  have HLD : Hid (∀ W, Kept nF w1 W → Calls Tryz.prog 26 #[.slice dao nd dc] W fun e w' => e = .returned (.slice (some ⟨W.heap.size, 0, none⟩) nd (nd + 67)) ∧ Lent2 w' W.heap.size p.data 67 ∧ Kept nF W w') := fun W hW => by
   have := Zpg (.slice dao nd dc) p.data W (HD.out.kept (HK1.out.trans hW) (fun _ _ f => f)) (by have := HBD.out; have := HND.out; omega)
   rw [← HND.out] at this
   exact this
  have HSM : Hid (∀ w', Kept nF w1 w' → w'.cell? ⟨gx, 0, none⟩ = some (.int .i64 mem) ∧ w'.cell? ⟨gx, 1, none⟩ = some (.slice dao nd dc)) := fun w' hw => by
   obtain ⟨c0, c1, _⟩ := Zx (Zc hw HX1.out id)
   exact ⟨c0, c1⟩
  have hKwd : Kept nF w1 w1.drew := (Kept.refl _ _).drew
  refine wp_region_held_drew (S := fun w' => Kept nF w1 w') (by kernel_rfl) hKwd (fun qh => ?_)
  generalize w1.drew = wd at *
  clear hKwd
  iterate 4
   refine tkn (v := ?_) 0 rfl ?_ ?_; rotate_left
   ·intro w' hSw; have s0 := HSM.out w' hSw; obtain ⟨c0, c1⟩ := s0; go_simp; try with_reducible rfl
   try simp only [Act.put, tdy]
  have HW := Za qh
  refine wpAnyH_ready (rs := [4, 6]) (by kernel_rfl) (by simp) ?_
  refine (AllReadyH.cons rfl (fun K hK => ?_) (AllReadyH.cons rfl (fun K hK => ?_) AllReadyH.nil))
  ·go_simp
   refine (HLD.out wd HW.out).mono ?_
   rintro e w3 ⟨rfl, hl3, hk3⟩
   refine hK.out _ _ (HW.out.trans hk3) (fun qh => ?_)
   clear hK K
   try simp only [Act.put, tdy]
   generalize hgd : wd.heap.size = gd at hl3 ⊢
   refine tkn (v := .agg #[.int .i64 mem, .slice (some ⟨gd, 0, none⟩) nd (nd + 67), .slice none 0 0]) 0 rfl ?_ ?_
   ·intro w' hSw; go_simp; try with_reducible rfl
   try simp only [Act.put, tdy]
   refine rdy 6 rfl (fun K hK => ?_)
   go_simp
   refine hK.out _ _ (qh.alloc _) (fun qh => ?_)
   clear hK K
   try simp only [Act.put, tdy]
   have hq := heap_alloc_new w3 (.cells #[.int .i64 0, .slice none 0 0, .slice none 0 0] 26)
   have hka : Kept nF w3 (w3.alloc (.cells #[.int .i64 0, .slice none 0 0, .slice none 0 0] 26)) := (Kept.refl _ _).alloc _
   have hl4 := hl3.kept hka id
   have hdw : gd < w3.heap.size := by obtain ⟨cur, h0, _⟩ := hl3; exact (Array.getElem?_eq_some_iff.1 h0).1
   generalize hgq : w3.heap.size = gq at hq ⊢
   have hne : gq ≠ gd := by omega
   have hgq1 : w1.heap.size ≤ gq := by have := HW.out.size; have := hk3.size; omega
   have hgd1 : w1.heap.size ≤ gd := by have := HW.out.size; omega
   generalize w3.alloc (.cells #[.int .i64 0, .slice none 0 0, .slice none 0 0] 26) = w4 at *
   have hkr := Zaq w4 gq #[.int .i64 mem, .slice (some ⟨gd, 0, none⟩) nd (nd + 67), .slice none 0 0]
   have hk5 : Kept nF w1 (w4.setRow gq #[.int .i64 mem, .slice (some ⟨gd, 0, none⟩) nd (nd + 67), .slice none 0 0]) := qh.step hkr (fun i hi e => by omega)
   have HLX : Hid (L1 w1 (w4.setRow gq #[.int .i64 mem, .slice (some ⟨gd, 0, none⟩) nd (nd + 67), .slice none 0 0]) gq gd nd mem p.data) := ⟨setRow_heap w4 gq _ _ 26 _ hq, hl4.kept hkr (fun e => hne e.symm), hk5, hgq1, hgd1, hne⟩
   refine rdy 7 rfl (fun K hK => ?_)
   refine Zfe rfl 26 _ _ rfl gq #[.int .i64 mem, .slice (some ⟨gd, 0, none⟩) nd (nd + 67), .slice none 0 0] rfl rfl 26 _ hq Zak rfl (Zfa _ _ _ rfl rfl rfl) ?_
   refine hK.out _ _ hk5 (fun qh => ?_)
   clear hK K
   try simp only [Act.put, tdy]
   refine wpAnyH_done (by kernel_rfl) ?_ _
   go_wp2
   go_meet
   exact ⟨gq, gd, rfl, HLX.out⟩
  ·go_simp
   refine hK.out _ _ (HW.out.alloc _) (fun qh => ?_)
   clear hK K
   try simp only [Act.put, tdy]
   have hq := heap_alloc_new wd (.cells #[.int .i64 0, .slice none 0 0, .slice none 0 0] 26)
   have hka : Kept nF wd (wd.alloc (.cells #[.int .i64 0, .slice none 0 0, .slice none 0 0] 26)) := (Kept.refl _ _).alloc _
   have hs3 : (wd.alloc (.cells #[.int .i64 0, .slice none 0 0, .slice none 0 0] 26)).heap.size = wd.heap.size + 1 := by simp
   generalize hgq : wd.heap.size = gq at hq hs3 ⊢
   have hgq1 : w1.heap.size ≤ gq := by have := HW.out.size; omega
   generalize wd.alloc (.cells #[.int .i64 0, .slice none 0 0, .slice none 0 0] 26) = w3 at *
   refine rdy 4 rfl (fun K hK => ?_)
   go_simp
   refine (HLD.out w3 (HW.out.trans hka)).mono ?_
   rintro e w4 ⟨rfl, hl3, hk3⟩
   refine hK.out _ _ ((HW.out.trans hka).trans hk3) (fun qh => ?_)
   clear hK K
   try simp only [Act.put, tdy]
   obtain ⟨gd, hgd⟩ := nmd (w3.heap.size)
   rw [← hgd] at hl3 ⊢
   have hne : gq ≠ gd := by omega
   have hgd1 : w1.heap.size ≤ gd := by omega
   have hq4 := Zc hk3 hq id
   clear hgd hs3 hgq
   refine tkn (v := .agg #[.int .i64 mem, .slice (some ⟨gd, 0, none⟩) nd (nd + 67), .slice none 0 0]) 0 rfl ?_ ?_
   ·intro w' hSw; go_simp; try with_reducible rfl
   try simp only [Act.put, tdy]
   have hkr := Zaq w4 gq #[.int .i64 mem, .slice (some ⟨gd, 0, none⟩) nd (nd + 67), .slice none 0 0]
   have hk5 : Kept nF w1 (w4.setRow gq #[.int .i64 mem, .slice (some ⟨gd, 0, none⟩) nd (nd + 67), .slice none 0 0]) := qh.step hkr (fun i hi e => by omega)
   have HLX : Hid (L1 w1 (w4.setRow gq #[.int .i64 mem, .slice (some ⟨gd, 0, none⟩) nd (nd + 67), .slice none 0 0]) gq gd nd mem p.data) := ⟨setRow_heap w4 gq _ _ 26 _ hq4, hl3.kept hkr (fun e => hne e.symm), hk5, hgq1, hgd1, hne⟩
   refine rdy 7 rfl (fun K hK => ?_)
   refine Zfe rfl 26 _ _ rfl gq #[.int .i64 mem, .slice (some ⟨gd, 0, none⟩) nd (nd + 67), .slice none 0 0] rfl rfl 26 _ hq4 Zak rfl (Zfa _ _ _ rfl rfl rfl) ?_
   refine hK.out _ _ hk5 (fun qh => ?_)
   clear hK K
   try simp only [Act.put, tdy]
   refine wpAnyH_done (by kernel_rfl) ?_ _
   go_wp2
   go_meet
   exact ⟨gq, gd, rfl, HLX.out⟩
 case rest =>
  obtain ⟨gq, gd, rfl, hl⟩ := hcut
  obtain ⟨hq, hdat, hk2, hgq, hgd, hne⟩ := hl
  have HQ2 := Za hq
  have HDT2 := Za hdat
  have HKa := Za (HK1.out.trans hk2)
  have HXX := Za (Zc hk2 HX1.out id)
  have HZZ := Za (Zc hk2 HZ1.out id)
  have HNE : Hid (w.heap.size ≤ gd ∧ gx + 2 ≤ gd ∧ gx + 2 ≤ gq ∧ gq ≠ gd ∧ gq < wc.heap.size ∧ gd < wc.heap.size ∧ gx < gq) := by
   have h1 := HGX.out
   have h2 := HS1.out
   have h3 := (Array.getElem?_eq_some_iff.1 hq).1
   have h4 : gd < wc.heap.size := by obtain ⟨cur, h0, _⟩ := hdat; exact (Array.getElem?_eq_some_iff.1 h0).1
   exact ⟨by omega, by omega, by omega, hne, h3, h4, by omega⟩
  clear hq hdat hk2 hgq hgd hne HX1 HZ1 HK1
  obtain ⟨c0, c1, c2, _⟩ := Zx HXX.out
  have mk := Zr6 wc (nf + 7) (by have := HLF.out; omega)
  rw [show ((nf + 7 : Nat) : Int) = (nf : Int) + 7 from by omega] at mk
  have hw1 : IntKind.i64.wrap ((nf : Int) + 7) = (nf : Int) + 7 := by have := HLF.out; simp [IntKind.wrap, IntKind.bits, IntKind.signed]; omega
  have hkA : Kept nF wc (wc.alloc (.cells (zfn ((nf + 7) * 4)) 78)) := (Kept.refl _ _).alloc _
  have hbz := heap_alloc_new wc (.cells (zfn ((nf + 7) * 4)) 78)
  have hth : (wc.alloc (.cells (zfn ((nf + 7) * 4)) 78)).there wc.heap.size 0 ((p.fns.length + 7) * 4) := fun j hj => by
   refine ⟨?_, Ze _ _ _ _ _ hbz⟩
   rw [Zb _ _ _ _ _ _ hbz, Array.getElem?_eq_getElem (by rw [Zr5, HNF.out]; omega)]
   rfl
  have HLN : Hid (LdK w (wc.alloc (.cells (zfn ((nf + 7) * 4)) 78)) gx (gx + 1) gq gd wc.heap.size nd #[.int .i64 mem, .slice dao nd dc, .slice fao nf fc] p [] 0) := ⟨Zc hkA HXX.out id, Zc hkA HZZ.out id, by rw [← HMEM.out]; exact Zc hkA HQ2.out id, ⟨HDT2.out.kept hkA id, HNE.out.2.2.2.2.2.1, ⟨hth, fun i f cg hi => absurd hi (by omega), fun i h0 h1 => absurd h1 (by omega)⟩, fun i f cg _ hc => by simp at hc, by simp, List.Pairwise.nil, fun cg hc => by simp at hc⟩, HKa.out.trans hkA, fun cg hc => by simp at hc⟩
  clear hkA hbz hth HQ2 HDT2 HXX HZZ
  have HGL : Hid (gq < wc.heap.size ∧ gx + 1 < wc.heap.size ∧ w.heap.size ≤ wc.heap.size) := ⟨HNE.out.2.2.2.2.1, by have h1 := HNE.out.2.2.1; have h2 := HNE.out.2.2.2.2.1; omega, HKa.out.size⟩
  go_upto_region 3 with fail
  clear mk hw1 c0 c1 c2
  generalize wc.alloc (.cells (zfn ((nf + 7) * 4)) 78) = w5 at *
  generalize wc.heap.size = gl at *
  go_wp2_with fail
  go_loopw [5] (fun iv wr => ∃ (k : Nat) (cgs : List Nat), iv = .int .i64 (k : Int) ∧ Hid (k ≤ nf + 7) ∧ Hid (LdK w wr gx (gx + 1) gq gd gl nd #[.int .i64 mem, .slice dao nd dc, .slice fao nf fc] p cgs k)) (fun iv _ => nf + 7 - (intOf iv).toNat)
  case atStart => exact ⟨0, [], rfl, Nat.zero_le _, HLN⟩
  case round =>
   clear HLN
   obtain ⟨k, cgs, rfl, HI, HLK⟩ := hrel
   have hnfB : (nf : Int) ≤ 10000000000000 := by have := HLF.out; omega
   by_cases hlt : k < nf + 7
   ·have hltI : (k : Int) < (nf : Int) + 7 := by omega
    have hth : wr.there gl (k * 4) (#[.int .i64 (-70 - (k : Int)), .int .i64 0, .int .i64 0, .slice none 0 0] : Array Value).size := Zao HLK.out.lp.fns.there (by show k * 4 + 4 ≤ _; rw [← HNF.out]; omega)
    obtain ⟨hP1, hP2⟩ := HLK.out.lp.fns.put (by rw [← HNF.out]; exact hlt) (#[.int .i64 (-70 - (k : Int)), .int .i64 0, .int .i64 0, .slice none 0 0] : Array Value).toList rfl
    have hk6 := Za4 gl (#[.int .i64 (-70 - (k : Int)), .int .i64 0, .int .i64 0, .slice none 0 0] : Array Value).toList (k * 4) wr
    have HP1 := Za hP1
    have HP2 := Za hP2
    have HK6 := Za hk6
    clear hP1 hP2 hk6
    go_upto_region 7 with (refine wpList_store_mid rfl 78 _ _ rfl gl (k * 4) #[.int .i64 (-70 - (k : Int)), .int .i64 0, .int .i64 0, .slice none 0 0] rfl rfl hth Zkq (Zfr _ _ _ _ rfl rfl rfl rfl) ?_)
    clear hth
    generalize wr.setCells gl (k * 4) (#[.int .i64 (-70 - (k : Int)), .int .i64 0, .int .i64 0, .slice none 0 0] : Array Value).toList = w6 at *
    have hgo := HGL.out
    have HB6 := Za (Zc HK6.out HLK.out.box (by omega))
    have HR6 := Za (Zc HK6.out HLK.out.res (by omega))
    have HQ6 := Za (Zc HK6.out HLK.out.q (by omega))
    have HKw6 : Hid (Kept nF w w6) := HLK.out.kept.step HK6.out (fun i hi e => by omega)
    have HLT6 : Hid (∀ cg ∈ cgs, cg < w6.heap.size) := fun cg hc => Nat.lt_of_lt_of_le (HLK.out.lt cg hc) HK6.out.size
    have HD6 := Za (HLK.out.lp.dat.kept HK6.out (fun e => by have := HLK.out.lp.dl; omega))
    have HC6 : Hid (∀ (i : Nat) (f : FN) (cg : Nat), p.fns[i]? = some f → cgs[i]? = some cg → LentI w6 cg f.code 67) := fun i f cg hf hc => (HLK.out.lp.code i f cg hf hc).kept HK6.out (fun e => by have := HLK.out.lp.lo cg (List.mem_of_getElem? hc); omega)
    have HLP := Za HLK.out.lp
    obtain ⟨c0, c1, c2, _⟩ := Zx HB6.out
    clear HLK HK6
    by_cases hlk : k < nf
    ·have hlkI : (k : Int) < (nf : Int) := by omega
     have hlk' : k < p.fns.length := by rw [← HNF.out]; exact hlk
     obtain ⟨g, o, f, e1, hgB, hfi, hfa⟩ := HF.out.at (i := k) hlk'
     subst e1
     obtain ⟨cao, cc, x0, x1, x2, x3, hri, hcl⟩ := Zbr hfa
     have hlc := (HO.out.fns f (List.mem_of_getElem? hfi)).len
     have y0 := HKw6.out.cell x0 id
     have y1 := HKw6.out.cell x1 id
     have y2 := HKw6.out.cell x2 id
     have y3 := HKw6.out.cell x3 id
     have hgg : g ≠ gl := by omega
     have HCF : Hid (f.cells (.slice cao f.code.length cc) = (#[.int .i64 f.a, .int .i64 f.l, .int .i64 f.r, .slice cao f.code.length cc] : Array Value).toList) := rfl
     have HFI := Za hfi
     have HRI := Za hri
     have HLC := Za hlc
     have hlen : cgs.length = k := by have := HLP.out.len; omega
     have HLE := Za hlen
     clear x0 x1 x2 x3 hfa hfi hri hlc hcl hlen
     have hth : w6.there gl (k * 4) (#[.int .i64 f.a, .int .i64 f.l, .int .i64 f.r, .slice cao f.code.length cc] : Array Value).size := Zao HP1.out.there (by show k * 4 + 4 ≤ _; omega)
     obtain ⟨hP1, hP2⟩ := HP1.out.put (by omega) (#[.int .i64 f.a, .int .i64 f.l, .int .i64 f.r, .slice cao f.code.length cc] : Array Value).toList rfl
     have hk7 := Za4 gl (#[.int .i64 f.a, .int .i64 f.l, .int .i64 f.r, .slice cao f.code.length cc] : Array Value).toList (k * 4) w6
     have HP7 := Za hP1
     have HR7 : Hid ((w6.setCells gl (k * 4) (#[.int .i64 f.a, .int .i64 f.l, .int .i64 f.r, .slice cao f.code.length cc] : Array Value).toList).rangeAt gl (k * 4) (f.cells (.slice cao f.code.length cc))) := by show World.rangeAt _ _ _ _; rw [HCF.out]; exact hP2
     have HK7 := Za hk7
     have HC2 := Za (Zb _ gx 2 _ _ _ (Zc hk7 HB6.out (by omega)))
     have HY3 := Za (hk7.cell y3 hgg)
     clear hP1 hP2 hk7 HP1 HP2
     go_upto_region 9 with (refine wpList_store_mid rfl 78 _ _ rfl gl (k * 4) #[.int .i64 f.a, .int .i64 f.l, .int .i64 f.r, .slice cao f.code.length cc] rfl rfl hth Zkq (Zfr _ _ _ _ rfl rfl rfl rfl) ?_)
     clear hth c0 c1 c2 y0 y1 y2 y3
     generalize w6.setCells gl (k * 4) (#[.int .i64 f.a, .int .i64 f.l, .int .i64 f.r, .slice cao f.code.length cc] : Array Value).toList = w7 at *
     have HKw7 : Hid (Kept nF w w7) := HKw6.out.step HK7.out (fun i hi e => by omega)
     have HLI := Za (Zpe cao cc f.code w7 (HRI.out.kept HKw7.out (fun _ _ f => f)) (by have := HLC.out; omega))
     have c2 := HC2.out
     have y3 := HY3.out
     go_wp2_with fail
     refine HLI.out.mono ?_
     rintro e w8 ⟨rfl, hl8, hk8⟩
     clear c2 y3 HLI
     have z3 : w8.cell? ⟨gl, k * 4 + 3, none⟩ = some (.slice cao f.code.length cc) := hk8.cell (HR7.out 3 _ rfl) id
     have zf : w8.frozen? ⟨gl, k * 4 + 3, none⟩ = false := by
      have := ((HP7.out.kept hk8 id).there (k * 4 + 3) (by omega)).2
      rwa [Nat.zero_add] at this
     have hcgl : gl < w7.heap.size := HP7.out.lt
     have hG9 := (HP7.out.kept hk8 id).code HLE.out HFI.out (fun j u hj => hk8.cell (HR7.out j u hj) id) w7.heap.size
     have hks := Zg w8 gl (k * 4 + 3) (.slice (some ⟨w7.heap.size, 0, none⟩) f.code.length (f.code.length + 67))
     have hcw : w7.heap.size < w8.heap.size := by
      have h1 := (hl8.there 0 (by omega)).1
      cases hc : w8.cell? ⟨w7.heap.size, 0 + 0, none⟩ with
      | none => rw [hc] at h1; cases h1
      | some v => exact World.block_lt_of_cell? w8 _ hc
     have HLK9 : Hid (LdK w (w8.setCell ⟨gl, k * 4 + 3, none⟩ (.slice (some ⟨w7.heap.size, 0, none⟩) f.code.length (f.code.length + 67))) gx (gx + 1) gq gd gl nd #[.int .i64 mem, .slice dao nd dc, .slice (some ⟨g, o, none⟩) nf fc] p (cgs ++ [w7.heap.size]) (k + 1)) := by
      have hk78 := HK7.out.step hk8 (fun i hi e => e.elim)
      have hlt7 : ∀ cg ∈ cgs, cg < w7.heap.size := fun cg hc => Nat.lt_of_lt_of_le (HLT6.out cg hc) HK7.out.size
      refine ⟨Zc hks (Zc hk8 (Zc HK7.out HB6.out (by omega)) id) (by omega), Zc hks (Zc hk8 (Zc HK7.out HR6.out (by omega)) id) (by omega), Zc hks (Zc hk8 (Zc HK7.out HQ6.out (by omega)) id) (by omega), ⟨((HD6.out.kept HK7.out (fun e => by have := HLP.out.dl; omega)).kept hk8 id).kept hks (fun e => by have := HLP.out.dl; omega), HLP.out.dl, hG9, fun i F cg hF hc => ?_, ?_, ?_, fun cg hc => ?_⟩, (HKw7.out.trans hk8).step hks (fun i hi e => by omega), fun cg hc => ?_⟩
      ·have hil : i < p.fns.length := (List.getElem?_eq_some_iff.1 hF).1
       by_cases hik : i < k
       ·rw [List.getElem?_append_left (by rw [HLE.out]; exact hik)] at hc
        have hm := HLP.out.lo cg (List.mem_of_getElem? hc)
        exact (((HC6.out i F cg hF hc).kept HK7.out (by omega)).kept hk8 id).kept hks (by omega)
       ·have hc2 := hc
        rw [List.getElem?_append_right (by rw [HLE.out]; omega), HLE.out] at hc2
        have hik0 : i = k := by
         have := (List.getElem?_eq_some_iff.1 hc2).1
         simp at this
         omega
        subst hik0
        rw [Nat.sub_self] at hc2
        cases hc2
        have ef : F = f := by have := HFI.out; rw [hF] at this; exact Option.some.inj this
        subst ef
        exact hl8.kept hks (by omega)
      ·rw [List.length_append, HLE.out]; simp; omega
      ·rw [List.pairwise_append]
       exact ⟨HLP.out.up, List.pairwise_singleton _ _, fun a ha b hb => by
        rw [List.mem_singleton.1 hb]
        exact hlt7 a ha⟩
      ·rcases List.mem_append.1 hc with hc | hc
       ·exact HLP.out.lo cg hc
       ·rw [List.mem_singleton.1 hc]; exact hcgl
      ·rcases List.mem_append.1 hc with hc | hc
       ·have h1 := hlt7 cg hc
        have h2 := hks.size
        have h3 := hk8.size
        omega
       ·rw [List.mem_singleton.1 hc]
        have h2 := hks.size
        omega
     clear hks hG9 hl8 hk8 hcw hcgl HP7 HR7 HC2 HY3 HB6 HR6 HQ6 HC6 HD6 HLT6 HLE HRI HLC hgo
     generalize hcg : w7.heap.size = cg at HLK9 ⊢
     clear hcg
     go_wp2
     go_roundw
     case rel => exact ⟨k + 1, _, by go_num, hlt, HLK9⟩
     case measure => simp [intOf]; omega
    ·have hnlk : ¬ (k : Int) < (nf : Int) := by omega
     have HLK9 : Hid (LdK w w6 gx (gx + 1) gq gd gl nd #[.int .i64 mem, .slice dao nd dc, .slice fao nf fc] p cgs (k + 1)) :=
      ⟨HB6.out, HR6.out, HQ6.out, ⟨HD6.out, HLP.out.dl, HP1.out.mark (by have := HNF.out; omega) HP2.out, HC6.out, by have := HLP.out.len; have := HNF.out; omega, HLP.out.up, HLP.out.lo⟩, HKw6.out, HLT6.out⟩
     clear HB6 HR6 HQ6 HD6 HP1 HP2 HC6 HLT6 hlk hgo
     go_wp2
     go_roundw
     case rel => exact ⟨k + 1, _, by go_num, hlt, HLK9⟩
     case measure => simp [intOf]; omega
   ·have hkn : k = nf + 7 := by have := HI.out; omega
    subst hkn
    have hnlt : ¬ (((nf + 7 : Nat)) : Int) < (nf : Int) + 7 := by omega
    have hgo := HGL.out
    obtain ⟨c0, c1, c2, _⟩ := Zx HLK.out.box
    obtain ⟨q0, q1, q2, qf0, qf1, qf2⟩ := Zx HLK.out.q
    have hks := Zg wr gq 2 (.slice (some ⟨gl, 0, none⟩) nf (nf + 7))
    have hq2 := Zf wr gq 2 _ _ _ HLK.out.q (.slice (some ⟨gl, 0, none⟩) nf (nf + 7))
    have HQ9 : Hid ((wr.setCell ⟨gq, 2, none⟩ (.slice (some ⟨gl, 0, none⟩) nf (nf + 7))).heap[gq]? = some (.cells #[.int .i64 mem, .slice (some ⟨gd, 0, none⟩) nd (nd + 67), .slice (some ⟨gl, 0, none⟩) nf (nf + 7)] 26 (0, 0))) := by rw [HMEM.out]; exact hq2
    have HR9 := Za (Zc hks HLK.out.res (by have := HNE.out; omega))
    have HLP9 := Za (HLK.out.lp.kept hks (by have := HNE.out; omega) (fun q hq e => by omega))
    have HK9 := Za (HLK.out.kept.step hks (fun i hi e => by have := HNE.out; have := HGX.out; omega))
    clear hks hq2 hlt HLK
    go_upto_region 11 with fail
    clear c0 c1 c2 q0 q1 q2 qf0 qf1 qf2
    generalize wr.setCell ⟨gq, 2, none⟩ (.slice (some ⟨gl, 0, none⟩) nf (nf + 7)) = w9 at *
    obtain ⟨q0, q1, q2, _⟩ := Zx HQ9.out
    have hkr := Zaq w9 (gx + 1) #[.int .i64 mem, .slice (some ⟨gd, 0, none⟩) nd (nd + 67), .slice (some ⟨gl, 0, none⟩) nf (nf + 7)]
    have HRR := Za (setRow_heap w9 (gx + 1) _ #[.int .i64 mem, .slice (some ⟨gd, 0, none⟩) nd (nd + 67), .slice (some ⟨gl, 0, none⟩) nf (nf + 7)] 26 _ HR9.out)
    have HLPF := Za (HLP9.out.kept hkr (by have := HNE.out; omega) (fun q hq e => by omega))
    have HKF := Za (HK9.out.step hkr (fun i hi e => by have := HGX.out; omega))
    clear hkr HLP9 HK9 hgo
    go_wp2_with (refine wpList_store_row rfl 26 _ _ rfl (gx + 1) #[.int .i64 mem, .slice (some ⟨gd, 0, none⟩) nd (nd + 67), .slice (some ⟨gl, 0, none⟩) nf (nf + 7)] rfl rfl 26 _ HR9.out Zak rfl (Zfa _ _ _ rfl rfl rfl) ?_)
    refine bodyPost_ret (v := .agg #[.int .i64 mem, .slice (some ⟨gd, 0, none⟩) nd (nd + 67), .slice (some ⟨gl, 0, none⟩) nf (nf + 7)]) (results_cell_row (by rfl) _ _ (gx + 1) 26 _ (0, 0) _ (by rfl) HRR.out Tryz.underlying26 rfl Zak) rfl ?_
    exact ⟨gd, gl, cgs, by rw [HLV.out], by rw [← HNF.out]; exact HLPF.out, HKF.out, HNE.out.1⟩
theorem Lent2.isB {w : World} {g c : Nat} {xs : List Int} {j : Nat} (h : Lent2 w g xs j) : IsB w (.slice (some ⟨g, 0, none⟩) xs.length c) xs := by
 obtain ⟨cur, h0, h1, h2, _⟩ := h
 refine .inr ⟨g, 0, c, rfl, fun i hi => ?_⟩
 rw [Zb _ _ _ _ _ _ h0, Nat.zero_add]
 exact h2 i hi
theorem Lent2.lt {w : World} {g : Nat} {xs : List Int} {j : Nat} (h : Lent2 w g xs j) : g < w.heap.size := by
 obtain ⟨cur, h0, _⟩ := h
 exact (Array.getElem?_eq_some_iff.1 h0).1
theorem LentI.lt {w : World} {g : Nat} {ys : List IN} {j : Nat} (h : LentI w g ys j) : g < w.heap.size := by
 have h1 := (h.there 0 (by omega)).1
 cases hc : w.cell? ⟨g, 0 + 0, none⟩ with
 | none => rw [hc] at h1; cases h1
 | some v => exact World.block_lt_of_cell? w _ hc
theorem LentP.pg {w : World} {gd gl : Nat} {cgs : List Nat} {p : PG} (h : LentP w gd gl cgs p (p.fns.length + 7)) : PgIs w w.heap.size (Ze7 p gd gl) p := by
 refine ⟨_, _, rfl, h.dat.isB, fun q hq => ?_, .inr ⟨gl, 0, _, rfl, h.fns.lt, fun i f hf => ?_⟩⟩
 ·simp only [Value.ownBlock, Option.some.injEq] at hq
  subst hq
  exact h.dat.lt
 ·have hil : i < p.fns.length := (List.getElem?_eq_some_iff.1 hf).1
  have hlen := h.len
  have hcg : cgs[i]? = some (cgs[i]'(by omega)) := List.getElem?_eq_getElem _
  have hc := h.code i f _ hf hcg
  refine ⟨_, by rw [Nat.zero_add]; exact h.fns.ents i f _ (by omega) hf hcg, hc.row, fun q hq _ => ?_⟩
  simp only [Value.ownBlock, Option.some.injEq] at hq
  subst hq
  exact hc.lt
structure HdK (w wr : World) (gx gd gl : Nat) (BX BY : Array Value) (p : PG) (cgs : List Nat) (k : Nat) : Prop where
 bx : wr.heap[gx]? = some (.cells BX 26 (0, 0))
 by_ : wr.heap[gx + 1]? = some (.cells BY 26 (0, 0))
 th : wr.there gl 0 ((p.fns.length + 7) * 4)
 ents : ∀ (i : Nat) (f : FN) (cg : Nat), k ≤ i → p.fns[i]? = some f → cgs[i]? = some cg → wr.rangeAt gl (i * 4) (Zkr f cg) ∧ LentI wr cg f.code 67
 marks : ∀ i, p.fns.length ≤ i → k ≤ i → i < p.fns.length + 7 → wr.rangeAt gl (i * 4) (mkG i)
 kept : Kept (fun q => q = gd ∨ gl ≤ q) w wr
theorem Zwf (gd gl : Nat) (cgs : List Nat) (v : Value) (p : PG) (w : World) (B : Nat) (hl : LentP w gd gl cgs p (p.fns.length + 7)) (h : PgIs w B v p) (hB : B ≤ gd) (ho : p.Ok) :
  Calls Tryz.prog 16 #[Ze7 p gd gl, v] w fun e w' => e = .returned (.bool true) ∧ Kept (fun q => q = gd ∨ gl ≤ q) w w' := by
 obtain ⟨dv, fv, rfl, hd, hdl, hf⟩ := h
 obtain ⟨dao, dc, rfl⟩ := hd.shape
 obtain ⟨fao, fc, rfl⟩ := hf.shape
 have HLV : Hid (Ze7 p gd gl = .agg #[.int .i64 p.mem, .slice (some ⟨gd, 0, none⟩) p.data.length (p.data.length + 67), .slice (some ⟨gl, 0, none⟩) p.fns.length (p.fns.length + 7)]) := rfl
 rw [HLV.out]
 have HD := Za hd
 have HF := Za hf
 have HO := Za ho
 have HL := Za hl
 have HBB := Za hB
 have hbd := ho.data.2
 have hlf := ho.len
 have hdgl := hl.dl
 have hglw := hl.fns.lt
 have HH := fun (W : World) (hW : Kept nF w W) => Zph gd (.slice dao p.data.length dc) p.data W (hl.dat.kept hW id) (hd.kept hW (fun _ _ f => f)) (by omega)
 clear hd hdl hf ho HLV hl hB
 obtain ⟨nd, hnd⟩ := nmd (p.data.length)
 obtain ⟨nf, hnf⟩ := nmd (p.fns.length)
 obtain ⟨mem, hmem⟩ := nmd (p.mem)
 rw [← hnd] at hbd HD HH
 rw [← hnf] at hlf HF
 rw [← hmem, ← hnd, ← hnf]
 have HNF := Za hnf
 have HND := Za hnd
 have HLF := Za hlf
 have HBD := Za hbd
 have HGG := Za (show gd < gl ∧ gl < w.heap.size from ⟨hdgl, hglw⟩)
 clear hnf hnd hmem hlf hbd hdgl hglw
 have hk1 : Kept nF w ((w.alloc (.cells #[.int .i64 mem, .slice (some ⟨gd, 0, none⟩) nd (nd + 67), .slice (some ⟨gl, 0, none⟩) nf (nf + 7)] 26)).alloc (.cells #[.int .i64 mem, .slice dao nd dc, .slice fao nf fc] 26)) := ((Kept.refl _ _).alloc _).alloc _
 have hb1 : ((w.alloc (.cells #[.int .i64 mem, .slice (some ⟨gd, 0, none⟩) nd (nd + 67), .slice (some ⟨gl, 0, none⟩) nf (nf + 7)] 26)).alloc (.cells #[.int .i64 mem, .slice dao nd dc, .slice fao nf fc] 26)).heap[w.heap.size]? = some (.cells #[.int .i64 mem, .slice (some ⟨gd, 0, none⟩) nd (nd + 67), .slice (some ⟨gl, 0, none⟩) nf (nf + 7)] 26 (0, 0)) := by
  rw [heap_alloc_old _ _ (by simp)]
  exact heap_alloc_new w _
 have hz1 : ((w.alloc (.cells #[.int .i64 mem, .slice (some ⟨gd, 0, none⟩) nd (nd + 67), .slice (some ⟨gl, 0, none⟩) nf (nf + 7)] 26)).alloc (.cells #[.int .i64 mem, .slice dao nd dc, .slice fao nf fc] 26)).heap[w.heap.size + 1]? = some (.cells #[.int .i64 mem, .slice dao nd dc, .slice fao nf fc] 26 (0, 0)) := by
  have := heap_alloc_new (w.alloc (.cells #[.int .i64 mem, .slice (some ⟨gd, 0, none⟩) nd (nd + 67), .slice (some ⟨gl, 0, none⟩) nf (nf + 7)] 26)) (.cells #[.int .i64 mem, .slice dao nd dc, .slice fao nf fc] 26)
  simpa using this
 go_enter Tryz.func16, Tryz.ntmps16
 go_upto_region 1 with fail
 generalize (w.alloc (.cells #[.int .i64 mem, .slice (some ⟨gd, 0, none⟩) nd (nd + 67), .slice (some ⟨gl, 0, none⟩) nf (nf + 7)] 26)).alloc (.cells #[.int .i64 mem, .slice dao nd dc, .slice fao nf fc] 26) = w1 at *
 obtain ⟨gx, hgx⟩ := nmd (w.heap.size)
 rw [← hgx] at hb1 hz1 HGG ⊢
 have HGX := Za hgx
 have HX1 := Za hb1
 have HZ1 := Za hz1
 have HK1 := Za hk1
 have HHW := Za (HH w1 hk1)
 clear hgx hb1 hz1 hk1 HH
 obtain ⟨x0, x1, x2, _⟩ := Zx HX1.out
 obtain ⟨z0, z1, z2, _⟩ := Zx HZ1.out
 go_wp2_with fail
 refine HHW.out.mono ?_
 rintro e w2 ⟨rfl, hk2⟩
 have hgg := HGG.out
 have HDK : Hid (HdK w w2 gx gd gl #[.int .i64 mem, .slice (some ⟨gd, 0, none⟩) nd (nd + 67), .slice (some ⟨gl, 0, none⟩) nf (nf + 7)] #[.int .i64 mem, .slice dao nd dc, .slice fao nf fc] p cgs 0) :=
  ⟨Zc hk2 HX1.out (by omega), Zc hk2 HZ1.out (by omega), Zat (Zat HL.out.fns.there HK1.out id) hk2 (by omega), fun i f cg _ hf hc => by
   have hil : i < p.fns.length := (List.getElem?_eq_some_iff.1 hf).1
   have hlo := HL.out.lo cg (List.mem_of_getElem? hc)
   exact ⟨fun j u hj => hk2.cell (HK1.out.cell (HL.out.fns.ents i f cg (by omega) hf hc j u hj) id) (by show ¬ gl = gd; omega), ((HL.out.code i f cg hf hc).kept HK1.out id).kept hk2 (by omega)⟩, fun i h0 _ h1 j u hj => hk2.cell (HK1.out.cell (HL.out.fns.marks i h0 h1 j u hj) id) (by show ¬ gl = gd; omega), (HK1.out.mono (fun _ _ f => f.elim)).trans (hk2.mono (fun _ _ e => .inl e))⟩
 clear hk2 HHW x0 x1 x2 z0 z1 z2 HX1 HZ1
 obtain ⟨x0, x1, x2, _⟩ := Zx HDK.out.bx
 obtain ⟨z0, z1, z2, _⟩ := Zx HDK.out.by_
 have hnfB : (nf : Int) ≤ 10000000000000 := by have := HLF.out; omega
 go_wp2_with fail
 clear x0 x1 x2 z0 z1 z2
 go_loopw [6] (fun iv wr => ∃ (k : Nat), iv = .int .i64 (k : Int) ∧ Hid (k ≤ nf + 7) ∧ Hid (HdK w wr gx gd gl #[.int .i64 mem, .slice (some ⟨gd, 0, none⟩) nd (nd + 67), .slice (some ⟨gl, 0, none⟩) nf (nf + 7)] #[.int .i64 mem, .slice dao nd dc, .slice fao nf fc] p cgs k)) (fun iv _ => nf + 7 - (intOf iv).toNat)
 case atStart => exact ⟨0, rfl, Nat.zero_le _, HDK⟩
 case round =>
  clear HDK
  obtain ⟨k, rfl, HI, HDK⟩ := hrel
  by_cases hlt : k < nf + 7
  ·have hltI : (k : Int) < (nf : Int) + 7 := by omega
   have hkB : (k : Int) ≤ 10000000000010 := by omega
   obtain ⟨z0, z1, z2, _⟩ := Zx HDK.out.by_
   by_cases hlk : k < nf
   ·have hlkI : ¬ (nf : Int) ≤ (k : Int) := by omega
    have hlkI2 : (k : Int) < (nf : Int) := by omega
    have hlk' : k < p.fns.length := by rw [← HNF.out]; exact hlk
    obtain ⟨g, o, f, e1, hgB, hfi, hfa⟩ := HF.out.at (i := k) hlk'
    subst e1
    obtain ⟨cao, cc, x0, x1, x2, x3, hri, hcl⟩ := Zbr hfa
    have hlen := HL.out.len
    obtain ⟨cg, hcg⟩ : ∃ cg, cgs[k]? = some cg := ⟨_, List.getElem?_eq_getElem (by omega)⟩
    have hlo := HL.out.lo cg (List.mem_of_getElem? hcg)
    obtain ⟨hent, hli⟩ := HDK.out.ents k f cg (Nat.le_refl _) hfi hcg
    have a0 : wr.cell? ⟨gl, k * 4, none⟩ = some (.int .i64 f.a) := hent 0 _ rfl
    have a1 : wr.cell? ⟨gl, k * 4 + 1, none⟩ = some (.int .i64 f.l) := hent 1 _ rfl
    have a2 : wr.cell? ⟨gl, k * 4 + 2, none⟩ = some (.int .i64 f.r) := hent 2 _ rfl
    have a3 : wr.cell? ⟨gl, k * 4 + 3, none⟩ = some (.slice (some ⟨cg, 0, none⟩) f.code.length (f.code.length + 67)) := hent 3 _ rfl
    have hB := HBB.out
    have hgn : ¬ (g = gd ∨ gl ≤ g) := by omega
    have y0 := HDK.out.kept.cell x0 hgn
    have y1 := HDK.out.kept.cell x1 hgn
    have y2 := HDK.out.kept.cell x2 hgn
    have y3 := HDK.out.kept.cell x3 hgn
    have hri2 := hri.keptB HDK.out.kept (fun q hq h0 e => by have := hcl q hq h0; omega)
    have hcode := (HO.out.fns f (List.mem_of_getElem? hfi)).len
    have hka : Kept nF wr ((wr.alloc (.cells #[.int .i64 f.a, .int .i64 f.l, .int .i64 f.r, .slice (some ⟨cg, 0, none⟩) f.code.length (f.code.length + 67)] 78)).alloc (.cells #[.int .i64 f.a, .int .i64 f.l, .int .i64 f.r, .slice cao f.code.length cc] 78)) := ((Kept.refl _ _).alloc _).alloc _
    have hka1 : Kept nF wr (wr.alloc (.cells #[.int .i64 f.a, .int .i64 f.l, .int .i64 f.r, .slice (some ⟨cg, 0, none⟩) f.code.length (f.code.length + 67)] 78)) := (Kept.refl _ _).alloc _
    have HB1 := Za (show ((wr.alloc (.cells #[.int .i64 f.a, .int .i64 f.l, .int .i64 f.r, .slice (some ⟨cg, 0, none⟩) f.code.length (f.code.length + 67)] 78)).alloc (.cells #[.int .i64 f.a, .int .i64 f.l, .int .i64 f.r, .slice cao f.code.length cc] 78)).heap[wr.heap.size]? = some (.cells #[.int .i64 f.a, .int .i64 f.l, .int .i64 f.r, .slice (some ⟨cg, 0, none⟩) f.code.length (f.code.length + 67)] 78 (0, 0)) by
     rw [heap_alloc_old _ _ (by simp)]
     exact heap_alloc_new wr _)
    have HB2 := Za (show ((wr.alloc (.cells #[.int .i64 f.a, .int .i64 f.l, .int .i64 f.r, .slice (some ⟨cg, 0, none⟩) f.code.length (f.code.length + 67)] 78)).alloc (.cells #[.int .i64 f.a, .int .i64 f.l, .int .i64 f.r, .slice cao f.code.length cc] 78)).heap[wr.heap.size + 1]? = some (.cells #[.int .i64 f.a, .int .i64 f.l, .int .i64 f.r, .slice cao f.code.length cc] 78 (0, 0)) by
     have := heap_alloc_new (wr.alloc (.cells #[.int .i64 f.a, .int .i64 f.l, .int .i64 f.r, .slice (some ⟨cg, 0, none⟩) f.code.length (f.code.length + 67)] 78)) (.cells #[.int .i64 f.a, .int .i64 f.l, .int .i64 f.r, .slice cao f.code.length cc] 78)
     simpa using this)
    have HKA := Za hka
    have HHI := Za (Zpf cg (.slice cao f.code.length cc) f.code _ (hli.kept hka id) (hri2.kept hka (fun _ _ f => f)) (by omega))
    have zz2 : (wr.alloc (.cells #[.int .i64 f.a, .int .i64 f.l, .int .i64 f.r, .slice (some ⟨cg, 0, none⟩) f.code.length (f.code.length + 67)] 78)).cell? ⟨gx + 1, 2, none⟩ = some (.slice (some ⟨g, o, none⟩) nf fc) := hka1.cell z2 id
    have yy0 := hka1.cell y0 id
    have yy1 := hka1.cell y1 id
    have yy2 := hka1.cell y2 id
    have yy3 := hka1.cell y3 id
    have HGL := Za (show gl < cg ∧ cg < wr.heap.size ∧ gx + 1 < wr.heap.size from ⟨hlo, hli.lt, (Array.getElem?_eq_some_iff.1 HDK.out.by_).1⟩)
    have HFI := Za hfi
    have HCG := Za hcg
    clear hfa hfi hcg hent hli hri hri2 hcl hka hka1 hB hgn hlen hlo
    go_upto_region 8 with fail
    clear a0 a1 a2 a3 y0 y1 y2 y3
    go_upto_region 12 with fail
    clear z0 z1 z2 zz2 yy0 yy1 yy2 yy3 x0 x1 x2 x3
    generalize ((wr.alloc (.cells #[.int .i64 f.a, .int .i64 f.l, .int .i64 f.r, .slice (some ⟨cg, 0, none⟩) f.code.length (f.code.length + 67)] 78)).alloc (.cells #[.int .i64 f.a, .int .i64 f.l, .int .i64 f.r, .slice cao f.code.length cc] 78)) = w4 at *
    obtain ⟨b0, b1, b2, b3, _⟩ := Yk HB1.out
    obtain ⟨d0, d1, d2, d3, _⟩ := Yk HB2.out
    go_wp2_with fail
    refine HHI.out.mono ?_
    rintro e w5 ⟨rfl, hk5⟩
    have hgo := HGL.out
    have hg2 := HGG.out
    have hgx1 := HGX.out
    have hcgx : cg < gx := by have := (HL.out.code k f cg HFI.out HCG.out).lt; omega
    have hth5 : w5.there gl (k * 4) (#[.int .i64 9, .int .i64 (-9), .int .i64 0, .slice none 0 0] : Array Value).size := Zao (Zat (Zat HDK.out.th HKA.out id) hk5 (by omega)) (by show k * 4 + 4 ≤ _; omega)
    have hks := Za4 gl (#[.int .i64 9, .int .i64 (-9), .int .i64 0, .slice none 0 0] : Array Value).toList (k * 4) w5
    have HDK9 : Hid (HdK w (w5.setCells gl (k * 4) (#[.int .i64 9, .int .i64 (-9), .int .i64 0, .slice none 0 0] : Array Value).toList) gx gd gl #[.int .i64 mem, .slice (some ⟨gd, 0, none⟩) nd (nd + 67), .slice (some ⟨gl, 0, none⟩) nf (nf + 7)] #[.int .i64 mem, .slice dao nd dc, .slice (some ⟨g, o, none⟩) nf fc] p cgs (k + 1)) := by
     have hlen := HL.out.len
     refine ⟨Zc hks (Zc hk5 (Zc HKA.out HDK.out.bx id) (by omega)) (by omega), Zc hks (Zc hk5 (Zc HKA.out HDK.out.by_ id) (by omega)) (by omega), World.there_setCells (Zat (Zat HDK.out.th HKA.out id) hk5 (by omega)) _ _ _, fun i F cg2 hi hF hc => ?_, fun i h0 h1 h2 => ?_, ((HDK.out.kept.trans (HKA.out.mono (fun _ _ f => f.elim))).trans (hk5.mono (fun q _ e => .inr (by omega)))).trans (hks.mono (fun q _ e => .inr (by omega)))⟩
     ·obtain ⟨h1, h2⟩ := HDK.out.ents i F cg2 (by omega) hF hc
      have hne : cg2 ≠ cg := by
       have hcl : i < cgs.length := (List.getElem?_eq_some_iff.1 hc).1
       have hck : k < cgs.length := (List.getElem?_eq_some_iff.1 HCG.out).1
       have hp := (List.pairwise_iff_getElem.1 HL.out.up) k i hck hcl (by omega)
       have e1 := (List.getElem?_eq_some_iff.1 hc).2
       have e2 := (List.getElem?_eq_some_iff.1 HCG.out).2
       omega
      have hlo2 := HL.out.lo cg2 (List.mem_of_getElem? hc)
      refine ⟨World.rangeAt_setCells_apart (fun j u hj => hk5.cell (HKA.out.cell (h1 j u hj) id) (by show ¬ gl = cg; omega)) _ _ _ (.inr (.inr ?_)), ((h2.kept HKA.out id).kept hk5 (by omega)).kept hks (by omega)⟩
      show k * 4 + 4 ≤ i * 4
      omega
     ·refine World.rangeAt_setCells_apart (fun j u hj => hk5.cell (HKA.out.cell (HDK.out.marks i h0 (by omega) h2 j u hj) id) (by show ¬ gl = cg; omega)) _ _ _ (.inr (.inr ?_))
      show k * 4 + 4 ≤ i * 4
      omega
    clear hks hk5 HHI HKA HDK HB1 HB2 b0 b1 b2 b3 d0 d1 d2 d3 hgo hg2 hgx1 hcgx
    go_wp2_with (refine wpList_store_mid rfl 78 _ _ rfl gl (k * 4) #[.int .i64 9, .int .i64 (-9), .int .i64 0, .slice none 0 0] rfl rfl hth5 Zkq (Zfr _ _ _ _ rfl rfl rfl rfl) ?_)
    go_roundw
    case rel => exact ⟨k + 1, by go_num, hlt, HDK9⟩
    case measure => simp [intOf]; omega
   ·have hlkI : (nf : Int) ≤ (k : Int) := by omega
    have hmk := HDK.out.marks k (by have := HNF.out; omega) (Nat.le_refl _) (by have := HNF.out; omega)
    have a0 : wr.cell? ⟨gl, k * 4, none⟩ = some (.int .i64 (-70 - (k : Int))) := hmk 0 _ rfl
    have a1 : wr.cell? ⟨gl, k * 4 + 1, none⟩ = some (.int .i64 0) := hmk 1 _ rfl
    have a2 : wr.cell? ⟨gl, k * 4 + 2, none⟩ = some (.int .i64 0) := hmk 2 _ rfl
    have a3 : wr.cell? ⟨gl, k * 4 + 3, none⟩ = some (.slice none 0 0) := hmk 3 _ rfl
    have hka : Kept nF wr (wr.alloc (.cells #[.int .i64 (-70 - (k : Int)), .int .i64 0, .int .i64 0, .slice none 0 0] 78)) := (Kept.refl _ _).alloc _
    have HB1 := Za (heap_alloc_new wr (.cells #[.int .i64 (-70 - (k : Int)), .int .i64 0, .int .i64 0, .slice none 0 0] 78))
    have zz2 : (wr.alloc (.cells #[.int .i64 (-70 - (k : Int)), .int .i64 0, .int .i64 0, .slice none 0 0] 78)).cell? ⟨gx + 1, 2, none⟩ = some (.slice fao nf fc) := hka.cell z2 id
    have HDK9 : Hid (HdK w (wr.alloc (.cells #[.int .i64 (-70 - (k : Int)), .int .i64 0, .int .i64 0, .slice none 0 0] 78)) gx gd gl #[.int .i64 mem, .slice (some ⟨gd, 0, none⟩) nd (nd + 67), .slice (some ⟨gl, 0, none⟩) nf (nf + 7)] #[.int .i64 mem, .slice dao nd dc, .slice fao nf fc] p cgs (k + 1)) :=
     ⟨Zc hka HDK.out.bx id, Zc hka HDK.out.by_ id, Zat HDK.out.th hka id, fun i F cg2 hi hF hc => ⟨fun j u hj => hka.cell ((HDK.out.ents i F cg2 (by omega) hF hc).1 j u hj) id, (HDK.out.ents i F cg2 (by omega) hF hc).2.kept hka id⟩, fun i h0 h1 h2 j u hj => hka.cell (HDK.out.marks i h0 (by omega) h2 j u hj) id, HDK.out.kept.trans (hka.mono (fun _ _ f => f.elim))⟩
    clear hka hmk HDK
    go_upto_region 8 with fail
    clear a0 a1 a2 a3 z0 z1 z2
    generalize (wr.alloc (.cells #[.int .i64 (-70 - (k : Int)), .int .i64 0, .int .i64 0, .slice none 0 0] 78)) = w4 at *
    generalize wr.heap.size = gz at *
    obtain ⟨b0, b1, b2, b3, _⟩ := Yk HB1.out
    go_wp2
    go_roundw
    case rel => exact ⟨k + 1, by go_num, hlt, HDK9⟩
    case measure => simp [intOf]; omega
  ·have hkn : k = nf + 7 := by have := HI.out; omega
   subst hkn
   have hnlt : ¬ (((nf + 7 : Nat)) : Int) < (nf : Int) + 7 := by omega
   have HKF := Za HDK.out.kept
   clear hlt HDK
   go_wp2
   go_ret
   exact ⟨rfl, HKF.out⟩
def Zx2 (w : World) (e : Ending) (w' : World) : Prop := ∃ n : Int, e = .returned (.int .i64 n) ∧ Kept nF w w'
theorem Zu3 (v : Value) (p : PG) (w : World) (B : Nat) (h : PgIs w B v p) (ho : p.Ok) : Calls Tryz.prog 12 #[v] w (Zx2 w) := by
 obtain ⟨dv, fv, rfl, hd, hdl, hf⟩ := h
 obtain ⟨dao, dc, rfl⟩ := hd.shape
 obtain ⟨fao, fc, rfl⟩ := hf.shape
 have hlf := ho.len
 obtain ⟨mem, ds, fs⟩ := p
 simp only at hlf hf ⊢
 obtain ⟨nf, hnf⟩ := nmd (fs.length)
 rw [← hnf] at hlf hf ⊢
 have hka : Kept nF w (w.alloc (.cells #[.int .i64 mem, .slice dao ds.length dc, .slice fao nf fc] 26)) := (Kept.refl _ _).alloc _
 have HX := Za (heap_alloc_new w (.cells #[.int .i64 mem, .slice dao ds.length dc, .slice fao nf fc] 26))
 have HF := Za (hf.kept hka (fun _ _ f => f))
 have HK := Za hka
 have HNF := Za hnf
 have HLF := Za hlf
 clear hd hdl hf ho hka hlf hnf
 go_enter Tryz.func12, Tryz.ntmps12
 go_upto_region 1 with fail
 generalize w.alloc (.cells #[.int .i64 mem, .slice dao ds.length dc, .slice fao nf fc] 26) = wa at *
 generalize w.heap.size = gx at *
 obtain ⟨x0, x1, x2, _⟩ := Zx HX.out
 go_wp2_with fail
 clear x0 x1 x2
 go_loopw [3, 4] (fun nv iv wr => ∃ (n : Int) (i : Nat), nv = .int .i64 n ∧ iv = .int .i64 (i : Int) ∧ Hid (i ≤ nf) ∧ wr = wa) (fun _ iv _ => nf - (intOf iv).toNat)
 case atStart => exact ⟨_, 0, rfl, rfl, Nat.zero_le _, rfl⟩
 case round =>
  obtain ⟨n, i, rfl, rfl, HI, rfl⟩ := hrel
  obtain ⟨x0, x1, x2, _⟩ := Zx HX.out
  have hnfB : (nf : Int) ≤ 10000000000000 := by have := HLF.out; omega
  by_cases hlt : i < nf
  ·have hltI : (i : Int) < (nf : Int) := by omega
   by_cases hn : n ≤ 524288
   ·have hli : i < fs.length := by rw [← HNF.out]; exact hlt
    obtain ⟨g, o, f, e1, hgB, hfi, hfa⟩ := HF.out.at (i := i) hli
    subst e1
    obtain ⟨cao, cc, y0, y1, y2, y3, hri, hcl⟩ := Zbr hfa
    clear hli hfa hfi hri hcl
    go_wp2
    go_roundw
    case rel => exact ⟨_, i + 1, rfl, by go_num, hlt, trivial⟩
    case measure => simp [intOf]; omega
   ·have hnd : decide (n ≤ 524288) = false := decide_eq_false hn
    go_wp2
    go_ret
    exact ⟨n, rfl, HK.out⟩
  ·have hltI : ¬ (i : Int) < (nf : Int) := by omega
   go_wp2
   go_ret
   exact ⟨n, rfl, HK.out⟩
theorem eqS (s : ByteArray) (w : World) : (binOp .eql 9 (.string s) (.string s)).run Tryz.prog w = .ok (.bool true) w := by
 go_simp
end Go.Proofs.YtgoabnehdmdikaaGreatDoor

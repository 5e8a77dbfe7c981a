import Derived.Test.YtcaadgcfceommaaGreatTPa
namespace Go.Proofs.YtcaadgcfceommaaGreat
open Go.ChangeShapes Go.WideShapes Go.ChangeAt Go.RowKit Go.Deep
set_option linter.unusedVariables false
set_option linter.unusedSimpArgs false
set_option maxRecDepth 100000
def sameF (f g : FN) : Bool := f.a == g.a && (f.l == g.l && (f.r == g.r && sameI f.code g.code))
def sameFs : List FN → List FN → Bool
 | [], [] => true
 | f :: fs, g :: gs => sameF f g && sameFs fs gs
 | _, _ => false
def sameP (p q : PG) : Bool := p.mem == q.mem && (((str p.data).toList == (str q.data).toList) && sameFs p.fns q.fns)
theorem sameF_refl (f : FN) : sameF f f = true := by simp [sameF, sameI_refl]
theorem sameFs_refl : ∀ fs : List FN, sameFs fs fs = true
 | [] => rfl
 | f :: fs => by rw [sameFs, sameF_refl, sameFs_refl fs]; rfl
theorem sameP_refl (p : PG) : sameP p p = true := by simp [sameP, sameFs_refl]
theorem sameFs_len : ∀ fs gs : List FN, fs.length ≠ gs.length → sameFs fs gs = false
 | [], [], h => absurd rfl h
 | [], _ :: _, _ => rfl
 | _ :: _, [], _ => rfl
 | f :: fs, g :: gs, h => by rw [sameFs, sameFs_len fs gs (by simpa using h), Bool.and_false]
theorem sameFs_drop : ∀ (fs gs : List FN) (i : Nat) (f g : FN), fs[i]? = some f → gs[i]? = some g → sameFs (fs.drop i) (gs.drop i) = (sameF f g && sameFs (fs.drop (i + 1)) (gs.drop (i + 1)))
 | [], _, i, _, _, h, _ => by simp at h
 | _ :: _, [], i, _, _, _, h => by simp at h
 | a :: fs, b :: gs, 0, f, g, h1, h2 => by
  simp at h1 h2
  subst h1
  subst h2
  rfl
 | a :: fs, b :: gs, i + 1, f, g, h1, h2 => by
  have := sameFs_drop fs gs i f g (by simpa using h1) (by simpa using h2)
  simpa using this
theorem sameI_lens : ∀ ys zs : List IN, ys.length ≠ zs.length → sameI ys zs = false
 | [], [], h => absurd rfl h
 | [], _ :: _, _ => rfl
 | _ :: _, [], _ => rfl
 | y :: ys, z :: zs, h => by rw [sameI, sameI_lens ys zs (by simpa using h)]; simp
theorem bytes_ext {a b : ByteArray} (h : a.toList = b.toList) : a = b := by
 rw [ByteArray.toList_eq, ByteArray.toList_eq] at h
 apply ByteArray.ext
 exact Array.toList_inj.1 h
set_option maxHeartbeats 8000000 in
theorem rsame_any (u v : Value) (p q : PG) (w : World) (B : Nat) (hp : PgIs w B u p) (hq : PgIs w B v q) (hB : B ≤ w.heap.size) (ho : p.Ok) (ho2 : q.Ok) :
  Calls Tryz.prog 37 #[u, v] w fun e w' => e = .returned (.bool (sameP p q)) ∧ KF w w' := by
 obtain ⟨dv, fv, rfl, hd, hdl, hf⟩ := hp
 obtain ⟨dao, dc, rfl⟩ := hd.shape
 obtain ⟨fao, fc, rfl⟩ := hf.shape
 obtain ⟨ev, gv, rfl, he, hel, hg⟩ := hq
 obtain ⟨eao, ec, rfl⟩ := he.shape
 obtain ⟨gao, gc, rfl⟩ := hg.shape
 obtain ⟨nd, hnd⟩ := nmd (p.data.length)
 obtain ⟨nf, hnf⟩ := nmd (p.fns.length)
 obtain ⟨mem, hmem⟩ := nmd (p.mem)
 obtain ⟨ne, hne⟩ := nmd (q.data.length)
 obtain ⟨ng, hng⟩ := nmd (q.fns.length)
 obtain ⟨mem2, hmem2⟩ := nmd (q.mem)
 rw [← hnd] at hd
 rw [← hne] at he
 rw [← hnf] at hf
 rw [← hng] at hg
 rw [← hmem, ← hnd, ← hnf, ← hmem2, ← hne, ← hng]
 have hbd := ho.data.2
 rw [← hnd] at hbd
 have hbe := ho2.data.2
 rw [← hne] at hbe
 have hlf := ho.len
 rw [← hnf] at hlf
 have hlg := ho2.len
 rw [← hng] at hlg
 obtain ⟨sa, hsa⟩ := nmd (str p.data)
 obtain ⟨sb, hsb⟩ := nmd (str q.data)
 have HSP : Hid (sameP p q = (mem == mem2 && ((sa.toList == sb.toList) && sameFs p.fns q.fns))) := by unfold Hid sameP; rw [hmem, hmem2, hsa, hsb]
 have HF := hid_of hf
 have HG := hid_of hg
 have HO := hid_of ho
 have HO2 := hid_of ho2
 have HNF := hid_of hnf
 have HNG := hid_of hng
 have hkA : KF w ((w.alloc (.cells #[.int .i64 mem, .slice dao nd dc, .slice fao nf fc] 25)).alloc (.cells #[.int .i64 mem2, .slice eao ne ec, .slice gao ng gc] 25)) := ((Kept.refl _ _).alloc _).alloc _
 have hbA : ((w.alloc (.cells #[.int .i64 mem, .slice dao nd dc, .slice fao nf fc] 25)).alloc (.cells #[.int .i64 mem2, .slice eao ne ec, .slice gao ng gc] 25)).heap[w.heap.size]? = some (.cells #[.int .i64 mem, .slice dao nd dc, .slice fao nf fc] 25 (0, 0)) := by
  rw [heap_alloc_old _ _ (by simp)]
  exact heap_alloc_new w _
 have hbB := heap_alloc_new (w.alloc (.cells #[.int .i64 mem, .slice dao nd dc, .slice fao nf fc] 25)) (.cells #[.int .i64 mem2, .slice eao ne ec, .slice gao ng gc] 25)
 rw [show (w.alloc (.cells #[.int .i64 mem, .slice dao nd dc, .slice fao nf fc] 25)).heap.size = w.heap.size + 1 by simp] at hbB
 have hs1 := conv_str _ _ _ (hd.kept hkA (fun _ _ f => f))
 have hs2 := conv_str _ _ _ (he.kept hkA (fun _ _ f => f))
 rw [← hsa] at hs1
 rw [← hsb] at hs2
 have HKA := hid_of hkA
 have HBA := hid_of hbA
 have HBB := hid_of hbB
 rw [HSP.out]
 clear hd hdl hf he hel hg ho ho2 hnf hnd hmem hne hng hmem2 hB hkA hbA hbB hsa hsb HSP
 go_enter Tryz.func37, Tryz.ntmps37
 go_upto_region 1 with fail
 generalize (w.alloc (.cells #[.int .i64 mem, .slice dao nd dc, .slice fao nf fc] 25)).alloc (.cells #[.int .i64 mem2, .slice eao ne ec, .slice gao ng gc] 25) = w1 at *
 generalize w.heap.size + 1 = gq at *
 generalize w.heap.size = gp at *
 have a0 := cell_block _ gp 0 _ _ _ HBA.out
 have a1 := cell_block _ gp 1 _ _ _ HBA.out
 have a2 := cell_block _ gp 2 _ _ _ HBA.out
 have b0 := cell_block _ gq 0 _ _ _ HBB.out
 have b1 := cell_block _ gq 1 _ _ _ HBB.out
 have b2 := cell_block _ gq 2 _ _ _ HBB.out
 by_cases hm : mem = mem2
 ·subst hm
  by_cases hd : sa.toList = sb.toList
  ·obtain rfl := bytes_ext hd
   clear hd
   by_cases hn : nf = ng
   ·subst hn
    have HST : Hid ((mem == mem && ((sa.toList == sa.toList) && sameFs p.fns q.fns)) = sameFs p.fns q.fns) := by unfold Hid; simp
    go_wp2_with fail
    go_loopw [5] (fun i wr => ∃ k : Nat, k ≤ nf ∧ i = .int .i64 k ∧ Hid (sameFs p.fns q.fns = sameFs (p.fns.drop k) (q.fns.drop k)) ∧ Hid (KF w1 wr)) (fun i _ => nf - (intOf i).toNat)
    case atStart => exact ⟨0, by omega, rfl, rfl, Kept.refl _ _⟩
    case round =>
     clear a0 a1 a2 b0 b1 b2 hs1 hs2
     obtain ⟨k, hk, rfl, HSD, HKR⟩ := hrel
     have HBA2 : Hid (wr.heap[gp]? = some (.cells #[.int .i64 mem, .slice dao nd dc, .slice fao nf fc] 25 (0, 0))) := (HKR.out.block gp (Array.getElem?_eq_some_iff.1 HBA.out).1 id).trans HBA.out
     have HBB2 : Hid (wr.heap[gq]? = some (.cells #[.int .i64 mem, .slice eao ne ec, .slice gao nf gc] 25 (0, 0))) := (HKR.out.block gq (Array.getElem?_eq_some_iff.1 HBB.out).1 id).trans HBB.out
     have a2 := cell_block _ gp 2 _ _ _ HBA2.out
     have b2 := cell_block _ gq 2 _ _ _ HBB2.out
     by_cases hlt : k < nf
     ·have hltI : (k : Int) < (nf : Int) := by omega
      obtain ⟨g, o, f, e1, hgB, hfi, hfa⟩ := (HF.out.kept (HKA.out.trans HKR.out) (fun _ _ f => f)).at (i := k) (by rw [← HNF.out]; exact hlt)
      subst e1
      obtain ⟨cao, cc, x0, x1, x2, x3, hri, hcl⟩ := fn_read hfa
      obtain ⟨g', o', f', e1', hgB', hfi', hfa'⟩ := (HG.out.kept (HKA.out.trans HKR.out) (fun _ _ f => f)).at (i := k) (by rw [← HNG.out]; exact hlt)
      subst e1'
      obtain ⟨cao', cc', x0', x1', x2', x3', hri', hcl'⟩ := fn_read hfa'
      have HDR := hid_of (sameFs_drop p.fns q.fns k f f' hfi hfi')
      have hlc := (HO.out.fns f (List.mem_of_getElem? hfi)).len
      have hlc' := (HO2.out.fns f' (List.mem_of_getElem? hfi')).len
      obtain ⟨fa, hfa1⟩ := nmd (f.a)
      obtain ⟨fl, hfl1⟩ := nmd (f.l)
      obtain ⟨fr, hfr1⟩ := nmd (f.r)
      obtain ⟨nc, hnc1⟩ := nmd (f.code.length)
      obtain ⟨fa', hfa2⟩ := nmd (f'.a)
      obtain ⟨fl', hfl2⟩ := nmd (f'.l)
      obtain ⟨fr', hfr2⟩ := nmd (f'.r)
      obtain ⟨nc', hnc2⟩ := nmd (f'.code.length)
      have HSF : Hid (sameF f f' = (fa == fa' && (fl == fl' && (fr == fr' && sameI f.code f'.code)))) := by unfold Hid sameF; rw [hfa1, hfa2, hfl1, hfl2, hfr1, hfr2]
      rw [← hfa1] at x0
      rw [← hfl1] at x1
      rw [← hfr1] at x2
      rw [← hnc1] at x3 hri hlc
      rw [← hfa2] at x0'
      rw [← hfl2] at x1'
      rw [← hfr2] at x2'
      rw [← hnc2] at x3' hri' hlc'
      have HNC := hid_of hnc1
      have HNC' := hid_of hnc2
      have hkB : KF wr ((wr.alloc (.cells #[.int .i64 fa, .int .i64 fl, .int .i64 fr, .slice cao nc cc] 56)).alloc (.cells #[.int .i64 fa', .int .i64 fl', .int .i64 fr', .slice cao' nc' cc'] 56)) := ((Kept.refl _ _).alloc _).alloc _
      have hbB : ((wr.alloc (.cells #[.int .i64 fa, .int .i64 fl, .int .i64 fr, .slice cao nc cc] 56)).alloc (.cells #[.int .i64 fa', .int .i64 fl', .int .i64 fr', .slice cao' nc' cc'] 56)).heap[wr.heap.size]? = some (.cells #[.int .i64 fa, .int .i64 fl, .int .i64 fr, .slice cao nc cc] 56 (0, 0)) := by
       rw [heap_alloc_old _ _ (by simp)]
       exact heap_alloc_new wr _
      have hbC := heap_alloc_new (wr.alloc (.cells #[.int .i64 fa, .int .i64 fl, .int .i64 fr, .slice cao nc cc] 56)) (.cells #[.int .i64 fa', .int .i64 fl', .int .i64 fr', .slice cao' nc' cc'] 56)
      rw [show (wr.alloc (.cells #[.int .i64 fa, .int .i64 fl, .int .i64 fr, .slice cao nc cc] 56)).heap.size = wr.heap.size + 1 by simp] at hbC
      have HRI := hid_of (hri.kept hkB (fun _ _ f => f))
      have HRI' := hid_of (hri'.kept hkB (fun _ _ f => f))
      have HK5 := hid_of (HKR.out.trans hkB)
      have HBB5 := hid_of hbB
      have HBC5 := hid_of hbC
      clear hfa1 hfl1 hfr1 hnc1 hfa2 hfl2 hfr2 hnc2 hri hri' hcl hcl' hfa hfa' hfi hfi' hkB hbB hbC
      have hgq : gq < wr.heap.size := (Array.getElem?_eq_some_iff.1 HBB2.out).1
      have hg2 : g' < wr.heap.size := World.block_lt_of_cell? wr _ x0'
      go_upto_region 8 with fail
      clear hgq hg2
      generalize (wr.alloc (.cells #[.int .i64 fa, .int .i64 fl, .int .i64 fr, .slice cao nc cc] 56)).alloc (.cells #[.int .i64 fa', .int .i64 fl', .int .i64 fr', .slice cao' nc' cc'] 56) = w5 at *
      generalize wr.heap.size + 1 = gy at *
      generalize wr.heap.size = gx at *
      clear x0 x1 x2 x3 x0' x1' x2' x3' a2 b2
      have y0 := cell_block _ gx 0 _ _ _ HBB5.out
      have y1 := cell_block _ gx 1 _ _ _ HBB5.out
      have y2 := cell_block _ gx 2 _ _ _ HBB5.out
      have y3 := cell_block _ gx 3 _ _ _ HBB5.out
      have z0 := cell_block _ gy 0 _ _ _ HBC5.out
      have z1 := cell_block _ gy 1 _ _ _ HBC5.out
      have z2 := cell_block _ gy 2 _ _ _ HBC5.out
      have z3 := cell_block _ gy 3 _ _ _ HBC5.out
      have HFAL : Hid (sameF f f' = false → sameFs p.fns q.fns = false) := fun h => by rw [HSD.out, HDR.out, h]; rfl
      by_cases q1 : fa = fa'
      ·subst q1
       by_cases q2 : fl = fl'
       ·subst q2
        by_cases q3 : fr = fr'
        ·subst q3
         by_cases q4 : nc = nc'
         ·subst q4
          go_wp2_with fail
          go_loopw [8] (fun i wq => ∃ j d : Nat, j ≤ nc ∧ i = .int .i64 j ∧ Hid (sameI f.code f'.code = sameI (f.code.drop j) (f'.code.drop j)) ∧ wq = w5.drewN d) (fun i _ => nc - (intOf i).toNat)
          case atStart => exact ⟨0, 0, by omega, rfl, rfl, rfl⟩
          case round =>
           obtain ⟨j, d, hj, rfl, HSI, rfl⟩ := hrel
           by_cases hjl : j < nc
           ·have hjI : (j : Int) < (nc : Int) := by omega
            obtain ⟨b1, o1, yv, ⟨e1, hy1, r1⟩⟩ : ∃ b1 o1 yv, cao = some ⟨b1, o1, none⟩ ∧ f.code[j]? = some yv ∧ w5.rangeAt b1 (o1 + j * 2) yv.cells := by
             rcases HRI.out with ⟨e, _⟩ | ⟨b1, o1, d1, e1, r1⟩
             ·have := HNC.out; rw [e] at this; simp at this; omega
             ·cases e1
              have hk : j < f.code.length := by rw [← HNC.out]; exact hjl
              exact ⟨b1, o1, _, rfl, List.getElem?_eq_getElem hk, r1 j _ (List.getElem?_eq_getElem hk)⟩
            obtain ⟨b2, o2, zv, ⟨e2, hy2, r2⟩⟩ : ∃ b1 o1 yv, cao' = some ⟨b1, o1, none⟩ ∧ f'.code[j]? = some yv ∧ w5.rangeAt b1 (o1 + j * 2) yv.cells := by
             rcases HRI'.out with ⟨e, _⟩ | ⟨b1, o1, d1, e1, r1⟩
             ·have := HNC'.out; rw [e] at this; simp at this; omega
             ·cases e1
              have hk : j < f'.code.length := by rw [← HNC'.out]; exact hjl
              exact ⟨b1, o1, _, rfl, List.getElem?_eq_getElem hk, r1 j _ (List.getElem?_eq_getElem hk)⟩
            subst e1
            subst e2
            obtain ⟨yo, ya⟩ := yv
            obtain ⟨zo, za⟩ := zv
            have k0 : w5.cell? ⟨b1, o1 + j * 2, none⟩ = some (.int .i64 yo) := r1 0 _ rfl
            have k1 : w5.cell? ⟨b1, o1 + j * 2 + 1, none⟩ = some (.int .i64 ya) := r1 1 _ rfl
            have k2 : w5.cell? ⟨b2, o2 + j * 2, none⟩ = some (.int .i64 zo) := r2 0 _ rfl
            have k3 : w5.cell? ⟨b2, o2 + j * 2 + 1, none⟩ = some (.int .i64 za) := r2 1 _ rfl
            have HAT := hid_of (sameI_at hy1 hy2)
            have hq := fun w => run_neq52 w yo ya zo za
            clear r1 r2 hy1 hy2
            go_upto_region 13 with fail
            go_quiet (fail)
            go_wp2
            ·rename_i hbad
             have HF3 : Hid (sameFs p.fns q.fns = false) := HFAL.out (by
              rw [HSF.out, HSI.out, HAT.out]
              simp only [beq_self_eq_true, Bool.true_and, Bool.and_eq_false_iff]
              left
              rcases hbad with h | h
              ·left; simpa using h
              ·right; simpa using h)
             go_ret
             exact ⟨by rw [HF3.out]; simp, kept_drewN (HKA.out.trans HK5.out) _⟩
            ·rename_i hok
             refine ⟨⟨j + 1, _, by omega, by go_num, ?_, rfl⟩, by simp [intOf]; omega⟩
             unfold Hid
             rw [HSI.out, HAT.out]
             have h1 : (yo == zo) = true := by simpa using hok.1
             have h2 : (ya == za) = true := by simpa using hok.2
             simp [h1, h2]
           ·have hjn : ¬ ((j : Int) < (nc : Int)) := by omega
            have HT : Hid (sameFs p.fns q.fns = sameFs (p.fns.drop (k + 1)) (q.fns.drop (k + 1))) := by
             unfold Hid
             rw [HSD.out, HDR.out, HSF.out, HSI.out, List.drop_of_length_le (by rw [← HNC.out]; omega), List.drop_of_length_le (by rw [← HNC'.out]; omega)]
             simp [sameI]
            have HK6 := hid_of (kept_drewN HK5.out d)
            go_wp2
            go_roundw
            case rel => exact ⟨k + 1, by omega, by go_num, HT, HK6⟩
            case measure => simp [intOf]; omega
         ·have hb : ((nc : Int) == (nc' : Int)) = false := by rw [beq_eq_false_iff_ne]; omega
          have hb2 : ((nc : Int) != (nc' : Int)) = true := by rw [bne_iff_ne]; omega
          have HR : Hid (sameFs p.fns q.fns = false) := HFAL.out (by rw [HSF.out, sameI_lens _ _ (by rw [← HNC.out, ← HNC'.out]; exact q4)]; simp)
          go_wp2
          go_ret
          exact ⟨by rw [HR.out]; simp, HKA.out.trans HK5.out⟩
        ·have hb : (fr == fr') = false := by simpa using q3
         have hb2 : (fr != fr') = true := by simpa using q3
         have HR : Hid (sameFs p.fns q.fns = false) := HFAL.out (by rw [HSF.out, hb]; simp)
         go_wp2
         go_ret
         exact ⟨by rw [HR.out]; simp, HKA.out.trans HK5.out⟩
       ·have hb : (fl == fl') = false := by simpa using q2
        have hb2 : (fl != fl') = true := by simpa using q2
        have HR : Hid (sameFs p.fns q.fns = false) := HFAL.out (by rw [HSF.out, hb]; simp)
        go_wp2
        go_ret
        exact ⟨by rw [HR.out]; simp, HKA.out.trans HK5.out⟩
      ·have hb : (fa == fa') = false := by simpa using q1
       have hb2 : (fa != fa') = true := by simpa using q1
       have HR : Hid (sameFs p.fns q.fns = false) := HFAL.out (by rw [HSF.out, hb]; simp)
       go_wp2
       go_ret
       exact ⟨by rw [HR.out]; simp, HKA.out.trans HK5.out⟩
     ·have hnl : ¬ ((k : Int) < (nf : Int)) := by omega
      have HR : Hid (sameFs p.fns q.fns = true) := by
       unfold Hid
       rw [HSD.out, List.drop_of_length_le (by rw [← HNF.out]; omega), List.drop_of_length_le (by rw [← HNG.out]; omega)]
       rfl
      go_wp2
      go_ret
      exact ⟨by rw [HR.out]; simp, HKA.out.trans HKR.out⟩
   ·have hb : ((nf : Int) == (ng : Int)) = false := by rw [beq_eq_false_iff_ne]; omega
    have hb2 : ((nf : Int) != (ng : Int)) = true := by rw [bne_iff_ne]; omega
    have HR : Hid (sameFs p.fns q.fns = false) := sameFs_len _ _ (by rw [← HNF.out, ← HNG.out]; exact hn)
    go_wp2
    go_ret
    exact ⟨by rw [HR.out]; simp, HKA.out⟩
  ·have HR : Hid ((sa.toList == sb.toList) = false) := by
    unfold Hid
    rw [beq_eq_false_iff_ne]
    exact hd
   go_wp2
   go_ret
   exact ⟨by rw [HR.out]; simp, HKA.out⟩
 ·have hb : (mem == mem2) = false := by simpa using hm
  have hb2 : (mem != mem2) = true := by simpa using hm
  have HR := hid_of hb
  go_wp2
  go_ret
  exact ⟨by rw [HR.out]; simp, HKA.out⟩
end Go.Proofs.YtcaadgcfceommaaGreat

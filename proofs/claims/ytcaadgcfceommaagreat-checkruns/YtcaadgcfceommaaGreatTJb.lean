import Derived.Test.YtcaadgcfceommaaGreatTKr
namespace Go.Proofs.YtcaadgcfceommaaGreat
open Go.RowKit
set_option linter.unusedVariables false
set_option linter.unusedSimpArgs false
set_option maxRecDepth 100000
def PosA (p : PG) : Prop := ∀ f ∈ p.fns, ∀ x ∈ f.code, x.op = 14 ∨ x.op = 15 ∨ x.op = 16 ∨ x.op = 7 ∨ x.op = 8 ∨ x.op = 17 → 0 ≤ x.a
theorem pos_err {x : IN} (he : errI x = 0) (h : x.op = 14 ∨ x.op = 15 ∨ x.op = 16 ∨ x.op = 7 ∨ x.op = 8 ∨ x.op = 17) : 0 ≤ x.a := by
 unfold errI at he
 have hk : ∃ k, kOf x.op = k + 2 := by rcases h with h | h | h | h | h | h <;> rw [h] <;> exact ⟨_, rfl⟩
 obtain ⟨k, hk⟩ := hk
 rw [hk] at he
 split at he
 ·split at he
  ·rename_i hm
   simp only [mayP, Bool.and_eq_true, decide_eq_true_eq] at hm
   exact hm.1
  ·cases he
 ·cases he
def shapesD (p : PG) : Int × Nat × Nat := (fnsS p p.fns 0).getD (0, 0, 0)
set_option maxHeartbeats 16000000 in
theorem rshapes_any (v : Value) (p : PG) (w : World) (B : Nat) (h : PgIs w B v p) (hB : B ≤ w.heap.size) (ho : p.Ok) (hpos : PosA p) (hn64 : p.fns.length ≤ 64) :
  Calls Tryz.prog 38 #[v] w fun e w' => e = .returned (faultV (shapesD p)) ∧ KF w w' := by
 obtain ⟨dv, fv, rfl, hd, hdl, hf⟩ := h
 obtain ⟨dao, dc, rfl⟩ := hd.shape
 obtain ⟨fao, fc, rfl⟩ := hf.shape
 obtain ⟨nf, hnf⟩ := nmd (p.fns.length)
 obtain ⟨nd, hnd⟩ := nmd (p.data.length)
 obtain ⟨mem, hmem⟩ := nmd (p.mem)
 rw [← hnf, ← hnd, ← hmem]
 rw [← hnf] at hf hn64
 obtain ⟨gb, hgb⟩ := nmd (w.heap.size)
 obtain ⟨W, hW⟩ := nmd ((w.alloc (.cells #[.int .i64 mem, .slice dao nd dc, .slice fao nf fc] 25)).alloc (.cells #[.int .i64 0, .int .i64 0, .int .i64 0] 38))
 obtain ⟨hkW, hb1, hb2⟩ := allocs2 _ _ _ _ _ _ hW
 rw [← hgb] at hb1 hb2
 have z2 : W.cell? ⟨gb, 2, none⟩ = some (.slice fao nf fc) := cell_block _ _ 2 _ _ _ hb1
 have HKW := hid_of hkW
 have HB2 := hid_of hb2
 have HF := hid_of (hf.kept hkW (fun _ _ f => f))
 have HO := hid_of ho
 have HNF := hid_of hnf
 have HGB := hid_of hgb
 have HPO := hid_of hpos
 clear hkW hb1 hb2 hd hdl hf hnf hnd hmem ho hB hpos
 go_enter Tryz.func38, Tryz.ntmps38
 go_upto_region 1 with fail
 rw [← hW, ← hgb]
 clear hW hgb
 go_wp2
 have HR0 : Hid (fnsS p p.fns 0 = fnsS p (p.fns.drop 0) 0) := rfl
 go_loopw [3] (fun iv wr => ∃ k : Nat, k ≤ nf ∧ iv = .int .i64 (k : Int) ∧ wr = W ∧ Hid (fnsS p p.fns 0 = fnsS p (p.fns.drop k) k)) (fun iv _ => nf - (intOf iv).toNat)
 case atStart => exact ⟨0, by omega, rfl, rfl, HR0⟩
 case round =>
  obtain ⟨k, hk, rfl, hwr, HT⟩ := hrel
  have hwr' := hwr.symm
  clear HR0 hwr
  subst hwr'
  by_cases hlt : k < nf
  ·have hltI : (k : Int) < (nf : Int) := by omega
   obtain ⟨g, o, f, hao, hgB, hfi, hfa⟩ := HF.out.at (i := k) (by rw [← HNF.out]; exact hlt)
   subst hao
   obtain ⟨cao, cc, x0, x1, x2, x3, hri, hcl⟩ := fn_read hfa
   have hfo := HO.out.fns f (List.mem_of_getElem? hfi)
   obtain ⟨fl, hfl⟩ := nmd (f.l)
   obtain ⟨nc, hnc⟩ := nmd (f.code.length)
   have hncb := hfo.len
   rw [← hfl] at x1
   rw [← hnc] at x3 hri hncb
   have HFL := hid_of hfl
   have HNC := hid_of hnc
   have HRI := hid_of hri
   have HFI := hid_of hfi
   clear hfa hri hcl hfo hnc hfi hfl x0 x2
   go_wp2
   have HT2 : Hid (codeS p f f.code 0 = codeS p f (f.code.drop 0) 0) := rfl
   go_loopw [5] (fun jv wi => ∃ j : Nat, j ≤ nc ∧ jv = .int .i64 (j : Int) ∧ wi = W ∧ Hid (codeS p f f.code 0 = codeS p f (f.code.drop j) j)) (fun jv _ => nc - (intOf jv).toNat)
   case atStart => exact ⟨0, by omega, rfl, rfl, HT2⟩
   case round =>
    obtain ⟨j, hj, rfl, hwr, HTI⟩ := hrel
    have hwr' := hwr.symm
    clear HT2 hwr
    subst hwr'
    by_cases hjl : j < nc
    ·have hjlI : (j : Int) < (nc : Int) := by omega
     obtain ⟨gi, oi, x, hxo, hxi, hxr⟩ := rowI_at HRI.out (i := j) (by rw [← HNC.out]; exact hjl)
     subst hxo
     have hap := HPO.out f (List.mem_of_getElem? HFI.out) x (List.mem_of_getElem? hxi)
     obtain ⟨op, hop⟩ := nmd (x.op)
     obtain ⟨a, ha⟩ := nmd (x.a)
     have i0 : W.cell? ⟨gi, oi + j * 2, none⟩ = some (.int .i64 op) := by rw [hop]; exact hxr 0 _ rfl
     have i1 : W.cell? ⟨gi, oi + j * 2 + 1, none⟩ = some (.int .i64 a) := by rw [ha]; exact hxr 1 _ rfl
     have HTN := hid_of (codeS_drop p f f.code j x hxi)
     rw [← hop, ← ha] at hap
     have HOP := hid_of hop
     have HA := hid_of ha
     have HAP := hid_of hap
     clear hxr hxi hop ha hap
     by_cases h14 : op = 14
     ·subst h14
      have hxo : x.op = 14 := HOP.out.symm
      have h0a := HAP.out (by omega)
      by_cases hab : a < (nc : Int)
      ·have HSE : Hid (strayE p f x = 0) := by unfold Hid strayE; rw [if_pos (by omega), if_pos (by rw [amg_iff, ← HA.out, ← HNC.out]; exact ⟨h0a, hab⟩)]
       have hdb : decide ((nc : Int) ≤ a) = false := by simp; omega
       clear hxo
       have HTI2 : Hid (codeS p f f.code 0 = codeS p f (f.code.drop (j + 1)) (j + 1)) := by unfold Hid; rw [HTI.out, HTN.out, if_pos HSE.out]
       clear HTN HSE
       go_wp2
       go_roundw
       case rel => exact ⟨j + 1, by omega, by go_num, trivial, HTI2⟩
       case measure => simp [intOf]; omega
      ·have HSE : Hid (strayE p f x = 131) := by unfold Hid strayE; rw [if_pos (by omega), if_neg (by rw [amg_iff, ← HA.out, ← HNC.out]; exact fun h => hab h.2)]
       have hdb : decide ((nc : Int) ≤ a) = true := by simp; omega
       clear hxo
       have HR : Hid (shapesD p = (131, k, j)) := by
        unfold Hid shapesD
        rw [HT.out, fnsS_drop p p.fns k f HFI.out, HTI.out, HTN.out, HSE.out, if_neg (by decide)]
        rfl
       obtain ⟨hx, hkx⟩ := set3 W (gb + 1) 38 _ _ _ (.int .i64 131) (.int .i64 (k : Int)) (.int .i64 (j : Int)) HB2.out
       have HX := hid_of hx
       have HKX := hid_of (HKW.out.step hkx (fun i hi e => by have := HGB.out; omega))
       have d0 := cell_block _ _ 0 _ _ _ HB2.out
       have d1 := cell_block _ _ 1 _ _ _ HB2.out
       have d2 := cell_block _ _ 2 _ _ _ HB2.out
       have f0 := frozen_block _ _ 0 _ _ HB2.out
       have f1 := frozen_block _ _ 1 _ _ HB2.out
       have f2 := frozen_block _ _ 2 _ _ HB2.out
       clear hx hkx HTN HSE
       go_wp2
       refine bodyPost_ret (v := faultV (shapesD p)) ?_ rfl ⟨rfl, HKX.out⟩
       rw [HR.out]
       exact results_cell_row (by rfl) _ _ (gb + 1) 38 _ (0, 0) _ (by rfl) HX.out Tryz.underlying38 rfl size38
     have e14 : (op == 14) = false := by simpa using h14
     by_cases h15 : op = 15
     ·subst h15
      have hxo : x.op = 15 := HOP.out.symm
      have h0a := HAP.out (by omega)
      by_cases hab : a < (nc : Int)
      ·have HSE : Hid (strayE p f x = 0) := by unfold Hid strayE; rw [if_pos (by omega), if_pos (by rw [amg_iff, ← HA.out, ← HNC.out]; exact ⟨h0a, hab⟩)]
       have hdb : decide ((nc : Int) ≤ a) = false := by simp; omega
       clear hxo
       have HTI2 : Hid (codeS p f f.code 0 = codeS p f (f.code.drop (j + 1)) (j + 1)) := by unfold Hid; rw [HTI.out, HTN.out, if_pos HSE.out]
       clear HTN HSE
       go_wp2
       go_roundw
       case rel => exact ⟨j + 1, by omega, by go_num, trivial, HTI2⟩
       case measure => simp [intOf]; omega
      ·have HSE : Hid (strayE p f x = 131) := by unfold Hid strayE; rw [if_pos (by omega), if_neg (by rw [amg_iff, ← HA.out, ← HNC.out]; exact fun h => hab h.2)]
       have hdb : decide ((nc : Int) ≤ a) = true := by simp; omega
       clear hxo
       have HR : Hid (shapesD p = (131, k, j)) := by
        unfold Hid shapesD
        rw [HT.out, fnsS_drop p p.fns k f HFI.out, HTI.out, HTN.out, HSE.out, if_neg (by decide)]
        rfl
       obtain ⟨hx, hkx⟩ := set3 W (gb + 1) 38 _ _ _ (.int .i64 131) (.int .i64 (k : Int)) (.int .i64 (j : Int)) HB2.out
       have HX := hid_of hx
       have HKX := hid_of (HKW.out.step hkx (fun i hi e => by have := HGB.out; omega))
       have d0 := cell_block _ _ 0 _ _ _ HB2.out
       have d1 := cell_block _ _ 1 _ _ _ HB2.out
       have d2 := cell_block _ _ 2 _ _ _ HB2.out
       have f0 := frozen_block _ _ 0 _ _ HB2.out
       have f1 := frozen_block _ _ 1 _ _ HB2.out
       have f2 := frozen_block _ _ 2 _ _ HB2.out
       clear hx hkx HTN HSE
       go_wp2
       refine bodyPost_ret (v := faultV (shapesD p)) ?_ rfl ⟨rfl, HKX.out⟩
       rw [HR.out]
       exact results_cell_row (by rfl) _ _ (gb + 1) 38 _ (0, 0) _ (by rfl) HX.out Tryz.underlying38 rfl size38
     have e15 : (op == 15) = false := by simpa using h15
     by_cases h16 : op = 16
     ·subst h16
      have hxo : x.op = 16 := HOP.out.symm
      have h0a := HAP.out (by omega)
      by_cases hab : a < (nc : Int)
      ·have HSE : Hid (strayE p f x = 0) := by unfold Hid strayE; rw [if_pos (by omega), if_pos (by rw [amg_iff, ← HA.out, ← HNC.out]; exact ⟨h0a, hab⟩)]
       have hdb : decide ((nc : Int) ≤ a) = false := by simp; omega
       clear hxo
       have HTI2 : Hid (codeS p f f.code 0 = codeS p f (f.code.drop (j + 1)) (j + 1)) := by unfold Hid; rw [HTI.out, HTN.out, if_pos HSE.out]
       clear HTN HSE
       go_wp2
       go_roundw
       case rel => exact ⟨j + 1, by omega, by go_num, trivial, HTI2⟩
       case measure => simp [intOf]; omega
      ·have HSE : Hid (strayE p f x = 131) := by unfold Hid strayE; rw [if_pos (by omega), if_neg (by rw [amg_iff, ← HA.out, ← HNC.out]; exact fun h => hab h.2)]
       have hdb : decide ((nc : Int) ≤ a) = true := by simp; omega
       clear hxo
       have HR : Hid (shapesD p = (131, k, j)) := by
        unfold Hid shapesD
        rw [HT.out, fnsS_drop p p.fns k f HFI.out, HTI.out, HTN.out, HSE.out, if_neg (by decide)]
        rfl
       obtain ⟨hx, hkx⟩ := set3 W (gb + 1) 38 _ _ _ (.int .i64 131) (.int .i64 (k : Int)) (.int .i64 (j : Int)) HB2.out
       have HX := hid_of hx
       have HKX := hid_of (HKW.out.step hkx (fun i hi e => by have := HGB.out; omega))
       have d0 := cell_block _ _ 0 _ _ _ HB2.out
       have d1 := cell_block _ _ 1 _ _ _ HB2.out
       have d2 := cell_block _ _ 2 _ _ _ HB2.out
       have f0 := frozen_block _ _ 0 _ _ HB2.out
       have f1 := frozen_block _ _ 1 _ _ HB2.out
       have f2 := frozen_block _ _ 2 _ _ HB2.out
       clear hx hkx HTN HSE
       go_wp2
       refine bodyPost_ret (v := faultV (shapesD p)) ?_ rfl ⟨rfl, HKX.out⟩
       rw [HR.out]
       exact results_cell_row (by rfl) _ _ (gb + 1) 38 _ (0, 0) _ (by rfl) HX.out Tryz.underlying38 rfl size38
     have e16 : (op == 16) = false := by simpa using h16
     by_cases h7 : op = 7
     ·subst h7
      have hxo : x.op = 7 := HOP.out.symm
      have h0a := HAP.out (by omega)
      by_cases hab : a < fl
      ·have HSE : Hid (strayE p f x = 0) := by unfold Hid strayE; rw [if_neg (by omega), if_pos (by omega), if_pos (by rw [amg_iff, ← HA.out, ← HFL.out]; exact ⟨h0a, hab⟩)]
       have hdb : decide (fl ≤ a) = false := by simp; omega
       clear hxo
       have HTI2 : Hid (codeS p f f.code 0 = codeS p f (f.code.drop (j + 1)) (j + 1)) := by unfold Hid; rw [HTI.out, HTN.out, if_pos HSE.out]
       clear HTN HSE
       go_wp2
       go_roundw
       case rel => exact ⟨j + 1, by omega, by go_num, trivial, HTI2⟩
       case measure => simp [intOf]; omega
      ·have HSE : Hid (strayE p f x = 132) := by unfold Hid strayE; rw [if_neg (by omega), if_pos (by omega), if_neg (by rw [amg_iff, ← HA.out, ← HFL.out]; exact fun h => hab h.2)]
       have hdb : decide (fl ≤ a) = true := by simp; omega
       clear hxo
       have HR : Hid (shapesD p = (132, k, j)) := by
        unfold Hid shapesD
        rw [HT.out, fnsS_drop p p.fns k f HFI.out, HTI.out, HTN.out, HSE.out, if_neg (by decide)]
        rfl
       obtain ⟨hx, hkx⟩ := set3 W (gb + 1) 38 _ _ _ (.int .i64 132) (.int .i64 (k : Int)) (.int .i64 (j : Int)) HB2.out
       have HX := hid_of hx
       have HKX := hid_of (HKW.out.step hkx (fun i hi e => by have := HGB.out; omega))
       have d0 := cell_block _ _ 0 _ _ _ HB2.out
       have d1 := cell_block _ _ 1 _ _ _ HB2.out
       have d2 := cell_block _ _ 2 _ _ _ HB2.out
       have f0 := frozen_block _ _ 0 _ _ HB2.out
       have f1 := frozen_block _ _ 1 _ _ HB2.out
       have f2 := frozen_block _ _ 2 _ _ HB2.out
       clear hx hkx HTN HSE
       go_wp2
       refine bodyPost_ret (v := faultV (shapesD p)) ?_ rfl ⟨rfl, HKX.out⟩
       rw [HR.out]
       exact results_cell_row (by rfl) _ _ (gb + 1) 38 _ (0, 0) _ (by rfl) HX.out Tryz.underlying38 rfl size38
     have e7 : (op == 7) = false := by simpa using h7
     by_cases h8 : op = 8
     ·subst h8
      have hxo : x.op = 8 := HOP.out.symm
      have h0a := HAP.out (by omega)
      by_cases hab : a < fl
      ·have HSE : Hid (strayE p f x = 0) := by unfold Hid strayE; rw [if_neg (by omega), if_pos (by omega), if_pos (by rw [amg_iff, ← HA.out, ← HFL.out]; exact ⟨h0a, hab⟩)]
       have hdb : decide (fl ≤ a) = false := by simp; omega
       clear hxo
       have HTI2 : Hid (codeS p f f.code 0 = codeS p f (f.code.drop (j + 1)) (j + 1)) := by unfold Hid; rw [HTI.out, HTN.out, if_pos HSE.out]
       clear HTN HSE
       go_wp2
       go_roundw
       case rel => exact ⟨j + 1, by omega, by go_num, trivial, HTI2⟩
       case measure => simp [intOf]; omega
      ·have HSE : Hid (strayE p f x = 132) := by unfold Hid strayE; rw [if_neg (by omega), if_pos (by omega), if_neg (by rw [amg_iff, ← HA.out, ← HFL.out]; exact fun h => hab h.2)]
       have hdb : decide (fl ≤ a) = true := by simp; omega
       clear hxo
       have HR : Hid (shapesD p = (132, k, j)) := by
        unfold Hid shapesD
        rw [HT.out, fnsS_drop p p.fns k f HFI.out, HTI.out, HTN.out, HSE.out, if_neg (by decide)]
        rfl
       obtain ⟨hx, hkx⟩ := set3 W (gb + 1) 38 _ _ _ (.int .i64 132) (.int .i64 (k : Int)) (.int .i64 (j : Int)) HB2.out
       have HX := hid_of hx
       have HKX := hid_of (HKW.out.step hkx (fun i hi e => by have := HGB.out; omega))
       have d0 := cell_block _ _ 0 _ _ _ HB2.out
       have d1 := cell_block _ _ 1 _ _ _ HB2.out
       have d2 := cell_block _ _ 2 _ _ _ HB2.out
       have f0 := frozen_block _ _ 0 _ _ HB2.out
       have f1 := frozen_block _ _ 1 _ _ HB2.out
       have f2 := frozen_block _ _ 2 _ _ HB2.out
       clear hx hkx HTN HSE
       go_wp2
       refine bodyPost_ret (v := faultV (shapesD p)) ?_ rfl ⟨rfl, HKX.out⟩
       rw [HR.out]
       exact results_cell_row (by rfl) _ _ (gb + 1) 38 _ (0, 0) _ (by rfl) HX.out Tryz.underlying38 rfl size38
     have e8 : (op == 8) = false := by simpa using h8
     by_cases h17 : op = 17
     ·subst h17
      have hxo : x.op = 17 := HOP.out.symm
      have h0a := HAP.out (by omega)
      by_cases hab : a < (nf : Int)
      ·have HSE : Hid (strayE p f x = 0) := by unfold Hid strayE; rw [if_neg (by omega), if_neg (by omega), if_pos (by omega), if_pos (by rw [amg_iff, ← HA.out, ← HNF.out]; exact ⟨h0a, hab⟩)]
       have hdb : decide ((nf : Int) ≤ a) = false := by simp; omega
       clear hxo
       have HTI2 : Hid (codeS p f f.code 0 = codeS p f (f.code.drop (j + 1)) (j + 1)) := by unfold Hid; rw [HTI.out, HTN.out, if_pos HSE.out]
       clear HTN HSE
       go_wp2
       go_roundw
       case rel => exact ⟨j + 1, by omega, by go_num, trivial, HTI2⟩
       case measure => simp [intOf]; omega
      ·have HSE : Hid (strayE p f x = 133) := by unfold Hid strayE; rw [if_neg (by omega), if_neg (by omega), if_pos (by omega), if_neg (by rw [amg_iff, ← HA.out, ← HNF.out]; exact fun h => hab h.2)]
       have hdb : decide ((nf : Int) ≤ a) = true := by simp; omega
       clear hxo
       have HR : Hid (shapesD p = (133, k, j)) := by
        unfold Hid shapesD
        rw [HT.out, fnsS_drop p p.fns k f HFI.out, HTI.out, HTN.out, HSE.out, if_neg (by decide)]
        rfl
       obtain ⟨hx, hkx⟩ := set3 W (gb + 1) 38 _ _ _ (.int .i64 133) (.int .i64 (k : Int)) (.int .i64 (j : Int)) HB2.out
       have HX := hid_of hx
       have HKX := hid_of (HKW.out.step hkx (fun i hi e => by have := HGB.out; omega))
       have d0 := cell_block _ _ 0 _ _ _ HB2.out
       have d1 := cell_block _ _ 1 _ _ _ HB2.out
       have d2 := cell_block _ _ 2 _ _ _ HB2.out
       have f0 := frozen_block _ _ 0 _ _ HB2.out
       have f1 := frozen_block _ _ 1 _ _ HB2.out
       have f2 := frozen_block _ _ 2 _ _ HB2.out
       clear hx hkx HTN HSE
       go_wp2
       refine bodyPost_ret (v := faultV (shapesD p)) ?_ rfl ⟨rfl, HKX.out⟩
       rw [HR.out]
       exact results_cell_row (by rfl) _ _ (gb + 1) 38 _ (0, 0) _ (by rfl) HX.out Tryz.underlying38 rfl size38
     have e17 : (op == 17) = false := by simpa using h17
     have HSE : Hid (strayE p f x = 0) := by unfold Hid strayE; rw [← HOP.out, if_neg (by omega), if_neg (by omega), if_neg (by omega)]
     have HTI2 : Hid (codeS p f f.code 0 = codeS p f (f.code.drop (j + 1)) (j + 1)) := by unfold Hid; rw [HTI.out, HTN.out, if_pos HSE.out]
     clear HTN HSE
     go_wp2
     go_roundw
     case rel => exact ⟨j + 1, by omega, by go_num, trivial, HTI2⟩
     case measure => simp [intOf]; omega
    ·have e : j = nc := by omega
     subst e
     have HT3 : Hid (fnsS p p.fns 0 = fnsS p (p.fns.drop (k + 1)) (k + 1)) := by
      unfold Hid
      rw [HT.out, fnsS_drop p p.fns k f HFI.out, HTI.out, List.drop_of_length_le (by rw [← HNC.out]; omega)]
      rfl
     clear HT HTI
     go_wp2
     go_roundw
     case rel => exact ⟨k + 1, by omega, by go_num, trivial, HT3⟩
     case measure => simp [intOf]; omega
  ·have e : k = nf := by omega
   subst e
   have HR : Hid (shapesD p = (0, 0, 0)) := by unfold Hid shapesD; rw [HT.out, List.drop_of_length_le (by rw [← HNF.out]; omega)]; rfl
   obtain ⟨hx, hkx⟩ := set3 W (gb + 1) 38 _ _ _ (.int .i64 0) (.int .i64 0) (.int .i64 0) HB2.out
   have HX := hid_of hx
   have HKX := hid_of (HKW.out.step hkx (fun i hi e => by have := HGB.out; omega))
   have d0 := cell_block _ _ 0 _ _ _ HB2.out
   have d1 := cell_block _ _ 1 _ _ _ HB2.out
   have d2 := cell_block _ _ 2 _ _ _ HB2.out
   have f0 := frozen_block _ _ 0 _ _ HB2.out
   have f1 := frozen_block _ _ 1 _ _ HB2.out
   have f2 := frozen_block _ _ 2 _ _ HB2.out
   clear hx hkx
   go_wp2
   refine bodyPost_ret (v := faultV (shapesD p)) ?_ rfl ⟨rfl, HKX.out⟩
   rw [HR.out]
   exact results_cell_row (by rfl) _ _ (gb + 1) 38 _ (0, 0) _ (by rfl) HX.out Tryz.underlying38 rfl size38
end Go.Proofs.YtcaadgcfceommaaGreat

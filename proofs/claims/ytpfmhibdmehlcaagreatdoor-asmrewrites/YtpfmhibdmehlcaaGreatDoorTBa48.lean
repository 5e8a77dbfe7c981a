import Derived.Test.YtpfmhibdmehlcaaGreatDoorTBa45
import Derived.Test.YtpfmhibdmehlcaaGreatDoorTBa2
import Derived.Test.YtpfmhibdmehlcaaGreatDoorTBa6
import Derived.Test.YtpfmhibdmehlcaaGreatDoorTBa39
import Derived.Deep.MidRow
import Derived.Test.YtpfmhibdmehlcaaGreatDoorTBa41
import Derived.Test.YtpfmhibdmehlcaaGreatDoorTBa35
import Derived.Test.YtpfmhibdmehlcaaGreatDoorTBa24
import Derived.Test.YtpfmhibdmehlcaaGreatDoorTBa13
import Derived.Laws.BytesString
import Derived.Laws.IdiomCopy
import Derived.Lib.ConvBytes
import Derived.Test.YtpfmhibdmehlcaaGreatDoorTBa47
import Derived.Deep.QuietTactic
import Derived.BigQuiet
import Derived.Test.YtpfmhibdmehlcaaGreatDoorTBa9
import Derived.Lib.OthersKept
import Derived.Test.YtpfmhibdmehlcaaGreatDoorTBa11
import Derived.Test.YtpfmhibdmehlcaaGreatDoorTBa43
import Derived.Test.YtpfmhibdmehlcaaGreatDoorTBa37
namespace Go.Proofs.YtpfmhibdmehlcaaGreatDoor
open Go.RowKit
set_option linter.unusedVariables false
set_option linter.unusedSimpArgs false
set_option maxRecDepth 100000
theorem neqS (s : ByteArray) (w : World) : (binOp .neq 9 (.string s) (.string s)).run Tryz.prog w = .ok (.bool false) w := by
 go_simp
set_option maxHeartbeats 16000000 in
theorem sameG (v1 v2 : Value) (p : PG) (w : World) (B1 B2 : Nat) (h1 : PgIs w B1 v1 p) (h2 : PgIs w B2 v2 p) (ho : p.Ok) :
  Calls Tryz.prog 11 #[v1, v2] w fun e w' => e = .returned (.bool true) ∧ Kept (fun _ => False) w w' := by
 obtain ⟨dv1, fv1, rfl, hd1, _, hf1⟩ := h1
 obtain ⟨dv2, fv2, rfl, hd2, _, hf2⟩ := h2
 obtain ⟨da1, dc1, rfl⟩ := hd1.shape
 obtain ⟨fa1, fc1, rfl⟩ := hf1.shape
 obtain ⟨da2, dc2, rfl⟩ := hd2.shape
 obtain ⟨fa2, fc2, rfl⟩ := hf2.shape
 have hlf := ho.len
 have HOF := hid_of ho.fns
 obtain ⟨mem, ds, fs⟩ := p
 simp only at hlf hf1 hf2 hd1 hd2 HOF ⊢
 obtain ⟨nf, hnf⟩ := nmd (fs.length)
 obtain ⟨nd, hnd⟩ := nmd (ds.length)
 rw [← hnf] at hlf hf1 hf2 ⊢
 rw [← hnd] at hd1 hd2 ⊢
 obtain ⟨W1, hW1⟩ := nmd ((w.alloc (.cells #[.int .i64 mem, .slice da1 nd dc1, .slice fa1 nf fc1] 25)).alloc (.cells #[.int .i64 mem, .slice da2 nd dc2, .slice fa2 nf fc2] 25))
 obtain ⟨k1, x1, x2⟩ := allocs2 _ _ _ _ _ _ hW1
 have HK1 := hid_of k1
 have HX1 := hid_of x1
 have HX2 := hid_of x2
 have HF1 := hid_of (hf1.kept k1 (fun _ _ f => f))
 have HF2 := hid_of (hf2.kept k1 (fun _ _ f => f))
 have HNF := hid_of hnf
 have hcv1 := conv_str W1 (.slice da1 nd dc1) ds (hd1.kept k1 (fun _ _ f => f))
 have hcv2 := conv_str W1 (.slice da2 nd dc2) ds (hd2.kept k1 (fun _ _ f => f))
 generalize str ds = sd at *
 have hneq := neqS sd W1
 clear hf1 hf2 hd1 hd2 hnf hnd k1 x1 x2 ho
 go_enter Tryz.func11, Tryz.ntmps11
 go_upto_region 1 with fail
 rw [← hW1]
 clear hW1
 generalize w.heap.size + 1 = gb at *
 generalize w.heap.size = ga at *
 obtain ⟨a0, a1, a2, _⟩ := look3 HX1.out
 obtain ⟨b0, b1, b2, _⟩ := look3 HX2.out
 go_wp2_with fail
 clear a0 a1 a2 b0 b1 b2 hcv1 hcv2 hneq
 go_loopw [5] (fun iv wr => ∃ (i : Nat), iv = .int .i64 (i : Int) ∧ Hid (i ≤ nf) ∧ Hid (Kept (fun _ => False) W1 wr)) (fun iv _ => nf - (intOf iv).toNat)
 case atStart => exact ⟨0, rfl, Nat.zero_le _, Kept.refl _ _⟩
 case round =>
  obtain ⟨i, rfl, HI, HK⟩ := hrel
  obtain ⟨a0, a1, a2, _⟩ := look3 (box_kept HK.out HX1.out id)
  have hnfB : (nf : Int) ≤ 10000000000000 := by omega
  by_cases hlt : i < nf
  ·have hltI : (i : Int) < (nf : Int) := by omega
   have hli : i < fs.length := by rw [← HNF.out]; exact hlt
   have hg1 := HF1.out.kept HK.out (fun _ _ f => f)
   obtain ⟨g1, o1, f, e1, -, hfi, hfa1⟩ := hg1.at (i := i) hli
   obtain ⟨g2, o2, f', e2, -, hfi', hfa2⟩ := (HF2.out.kept HK.out (fun _ _ f => f)).at (i := i) hli
   rw [hfi] at hfi'
   cases hfi'
   subst e1
   subst e2
   obtain ⟨ca1, cc1, r0, r1, r2, r3, hri1, -⟩ := fn_read hfa1
   obtain ⟨ca2, cc2, q0, q1, q2, q3, hri2, -⟩ := fn_read hfa2
   have hfok := HOF.out f (List.mem_of_getElem? hfi)
   have HCL : Hid (f.code.length ≤ 9223372036854775807) := by have := hfok.len; show _ ≤ _; omega
   obtain ⟨fa, fl, fr, code⟩ := f
   simp only at r0 r1 r2 r3 q0 q1 q2 q3 hri1 hri2 HCL
   obtain ⟨nc, hnc⟩ := nmd (code.length)
   rw [← hnc] at r3 q3 hri1 hri2 HCL
   have hk5 : Kept (fun _ => False) wr (wr.alloc (.cells #[.int .i64 fa, .int .i64 fl, .int .i64 fr, .slice ca1 nc cc1] 51)) := (Kept.refl _ _).alloc _
   have HY := hid_of (heap_alloc_new wr (.cells #[.int .i64 fa, .int .i64 fl, .int .i64 fr, .slice ca1 nc cc1] 51))
   have HK5 := hid_of (HK.out.trans hk5)
   have HQ := hid_of (And.intro q0 (And.intro q1 (And.intro q2 q3)))
   have HR1 := hid_of hri1
   have HR2 := hid_of hri2
   have HKY := hid_of hk5
   have HNC := hid_of hnc
   clear hg1 hfi hfa1 hfa2 hri1 hri2 hfok hli hk5 q0 q1 q2 q3 hnc
   go_upto_region 7 with fail
   clear r0 r1 r2 r3 a0 a1 a2
   have HQ5 : Hid ((wr.alloc (.cells #[.int .i64 fa, .int .i64 fl, .int .i64 fr, .slice ca1 nc cc1] 51)).cell? ⟨g2, o2 + i * 4, none⟩ = some (.int .i64 fa) ∧ (wr.alloc (.cells #[.int .i64 fa, .int .i64 fl, .int .i64 fr, .slice ca1 nc cc1] 51)).cell? ⟨g2, o2 + i * 4 + 1, none⟩ = some (.int .i64 fl) ∧ (wr.alloc (.cells #[.int .i64 fa, .int .i64 fl, .int .i64 fr, .slice ca1 nc cc1] 51)).cell? ⟨g2, o2 + i * 4 + 2, none⟩ = some (.int .i64 fr) ∧ (wr.alloc (.cells #[.int .i64 fa, .int .i64 fl, .int .i64 fr, .slice ca1 nc cc1] 51)).cell? ⟨g2, o2 + i * 4 + 3, none⟩ = some (.slice ca2 nc cc2)) :=
    ⟨HKY.out.cell HQ.out.1 id, HKY.out.cell HQ.out.2.1 id, HKY.out.cell HQ.out.2.2.1 id, HKY.out.cell HQ.out.2.2.2 id⟩
   generalize wr.alloc (.cells #[.int .i64 fa, .int .i64 fl, .int .i64 fr, .slice ca1 nc cc1] 51) = w5 at *
   generalize wr.heap.size = gy at *
   obtain ⟨b0, b1, b2, _⟩ := look3 (box_kept HK5.out HX2.out id)
   obtain ⟨r0, r1, r2, r3⟩ := HQ5.out
   have hk6 : Kept (fun _ => False) w5 (w5.alloc (.cells #[.int .i64 fa, .int .i64 fl, .int .i64 fr, .slice ca2 nc cc2] 51)) := (Kept.refl _ _).alloc _
   have HZ := hid_of (heap_alloc_new w5 (.cells #[.int .i64 fa, .int .i64 fl, .int .i64 fr, .slice ca2 nc cc2] 51))
   have HY6 := hid_of (box_kept hk6 HY.out id)
   have HK6 := hid_of (HK5.out.trans hk6)
   have HKR := hid_of (HKY.out.trans hk6)
   clear hk6 HY HK5 HQ5 HKY HQ
   go_upto_region 8 with fail
   clear r0 r1 r2 r3 b0 b1 b2
   generalize w5.alloc (.cells #[.int .i64 fa, .int .i64 fl, .int .i64 fr, .slice ca2 nc cc2] 51) = w6 at *
   generalize w5.heap.size = gz at *
   obtain ⟨y0, y1, y2, y3, _⟩ := look4 HY6.out
   obtain ⟨z0, z1, z2, z3, _⟩ := look4 HZ.out
   have hsc := same_any (.slice ca1 nc cc1) (.slice ca2 nc cc2) code code w6 (HR1.out.kept HKR.out (fun _ _ f => f)) (HR2.out.kept HKR.out (fun _ _ f => f)) (by rw [← HNC.out]; exact HCL.out) (by rw [← HNC.out]; exact HCL.out)
   rw [sameI_refl] at hsc
   have HSC := hid_of hsc
   clear hsc HR1 HR2 HNC HCL
   go_wp2_with fail
   refine HSC.out.mono ?_
   rintro e w7 ⟨rfl, nq, hw7⟩
   have HK7 : Hid (Kept (fun _ => False) W1 w7) := by
    show Kept _ _ _
    rw [hw7]
    exact kept_drewN HK6.out nq
   clear hw7 HSC HK6 HY6 HZ y0 y1 y2 y3 z0 z1 z2 z3 HKR
   go_wp2
   go_roundw
   case rel => exact ⟨i + 1, by go_num, hlt, HK7⟩
   case measure => simp [intOf]; omega
  ·have hltI : ¬ (i : Int) < (nf : Int) := by omega
   go_wp2
   go_ret
   exact ⟨rfl, HK1.out.trans HK.out⟩
theorem neqT (s s2 : ByteArray) (h : s ≠ s2) (w : World) : (binOp .neq 9 (.string s) (.string s2)).run Tryz.prog w = .ok (.bool true) w := by
 have h2 : ¬ s.toList = s2.toList := fun e => h (by
  rw [ByteArray.toList_eq, ByteArray.toList_eq] at e
  exact ByteArray.ext (Array.ext' e))
 go_simp
def SameP (p q : PG) (w : World) (e : Ending) (w' : World) : Prop := ∃ b, e = .returned (.bool b) ∧ (b = true ↔ p = q) ∧ Kept (fun _ => False) w w'
set_option maxHeartbeats 16000000 in
theorem sameH (v1 v2 : Value) (p q : PG) (w : World) (B1 B2 : Nat) (h1 : PgIs w B1 v1 p) (h2 : PgIs w B2 v2 q) (ho : p.Ok) (ho2 : q.Ok) :
  Calls Tryz.prog 11 #[v1, v2] w (SameP p q w) := by
 obtain ⟨dv1, fv1, rfl, hd1, _, hf1⟩ := h1
 obtain ⟨dv2, fv2, rfl, hd2, _, hf2⟩ := h2
 obtain ⟨da1, dc1, rfl⟩ := hd1.shape
 obtain ⟨fa1, fc1, rfl⟩ := hf1.shape
 obtain ⟨da2, dc2, rfl⟩ := hd2.shape
 obtain ⟨fa2, fc2, rfl⟩ := hf2.shape
 have hlf := ho.len
 have hlf2 := ho2.len
 have HOF := hid_of ho.fns
 have HOF2 := hid_of ho2.fns
 have hdi : str p.data = str q.data → p.data = q.data := fun h => by
  rw [← bytI_str p.data ho.data.1, ← bytI_str q.data ho2.data.1, h]
 obtain ⟨mem, ds, fs⟩ := p
 obtain ⟨mem2, ds2, fs2⟩ := q
 simp only at hlf hlf2 hf1 hf2 hd1 hd2 HOF HOF2 hdi ⊢
 obtain ⟨nf, hnf⟩ := nmd (fs.length)
 obtain ⟨nf2, hnf2⟩ := nmd (fs2.length)
 obtain ⟨nd, hnd⟩ := nmd (ds.length)
 obtain ⟨nd2, hnd2⟩ := nmd (ds2.length)
 rw [← hnf] at hlf hf1 ⊢
 rw [← hnf2] at hlf2 hf2 ⊢
 rw [← hnd] at hd1 ⊢
 rw [← hnd2] at hd2 ⊢
 obtain ⟨W1, hW1⟩ := nmd ((w.alloc (.cells #[.int .i64 mem, .slice da1 nd dc1, .slice fa1 nf fc1] 25)).alloc (.cells #[.int .i64 mem2, .slice da2 nd2 dc2, .slice fa2 nf2 fc2] 25))
 obtain ⟨k1, x1, x2⟩ := allocs2 _ _ _ _ _ _ hW1
 have HK1 := hid_of k1
 have HX1 := hid_of x1
 have HX2 := hid_of x2
 have HF1 := hid_of (hf1.kept k1 (fun _ _ f => f))
 have HF2 := hid_of (hf2.kept k1 (fun _ _ f => f))
 have HNF := hid_of hnf
 have HNF2 := hid_of hnf2
 have HDI := hid_of hdi
 have hcv1 := conv_str W1 (.slice da1 nd dc1) ds (hd1.kept k1 (fun _ _ f => f))
 have hcv2 := conv_str W1 (.slice da2 nd2 dc2) ds2 (hd2.kept k1 (fun _ _ f => f))
 have HSS : Hid (∀ sd sd2, sd = str ds → sd2 = str ds2 → sd ≠ sd2 → ds ≠ ds2) := fun sd sd2 a b c e => c (by rw [a, b, e])
 have HSE : Hid (∀ sd, sd = str ds → sd = str ds2 → ds = ds2) := fun sd a b => HDI.out (a.symm.trans b)
 obtain ⟨sd, hsd⟩ := nmd (str ds)
 obtain ⟨sd2, hsd2⟩ := nmd (str ds2)
 rw [← hsd] at hcv1
 rw [← hsd2] at hcv2
 have HSD := hid_of hsd
 have HSD2 := hid_of hsd2
 clear hf1 hf2 hd1 hd2 hnf hnf2 hnd hnd2 k1 x1 x2 ho ho2 hdi HDI hsd hsd2
 go_enter Tryz.func11, Tryz.ntmps11
 go_upto_region 1 with fail
 rw [← hW1]
 clear hW1
 generalize w.heap.size + 1 = gb at *
 generalize w.heap.size = ga0 at *
 obtain ⟨a0, a1, a2, _⟩ := look3 HX1.out
 obtain ⟨b0, b1, b2, _⟩ := look3 HX2.out
 by_cases hm : mem = mem2
 case neg =>
  have HNE : Hid ((⟨mem, ds, fs⟩ : PG) ≠ ⟨mem2, ds2, fs2⟩) := fun h => by injection h with e; exact hm e
  have e1 : (mem == mem2) = false := by simpa using hm
  have e2 : (mem != mem2) = true := by simpa using hm
  go_wp2
  go_ret
  refine ⟨false, rfl, ⟨(fun h => by cases h), fun h => absurd h HNE.out⟩, ?_⟩
  exact HK1.out
 case pos =>
 subst hm
 by_cases hs : sd = sd2
 case neg =>
  have HNE : Hid ((⟨mem, ds, fs⟩ : PG) ≠ ⟨mem, ds2, fs2⟩) := fun h => by injection h with _ e; exact HSS.out _ _ HSD.out HSD2.out hs e
  have hq1 : (sd.toList == sd2.toList) = false := by
   simp only [beq_eq_false_iff_ne, ne_eq]
   intro e
   rw [ByteArray.toList_eq, ByteArray.toList_eq] at e
   exact hs (ByteArray.ext (Array.ext' e))
  have hneq := neqT sd sd2 hs W1
  clear hs
  go_wp2
  go_ret
  refine ⟨false, rfl, ⟨(fun h => by cases h), fun h => absurd h HNE.out⟩, ?_⟩
  exact HK1.out
 case pos =>
 subst hs
 have hds := HSE.out _ HSD.out HSD2.out
 have hneq := neqS sd W1
 by_cases hl : nf = nf2
 case neg =>
  have HNE : Hid ((⟨mem, ds, fs⟩ : PG) ≠ ⟨mem, ds2, fs2⟩) := fun h => by injection h with _ _ e; exact hl (by rw [HNF.out, HNF2.out, e])
  have e1 : ((nf : Int) == (nf2 : Int)) = false := by simp; omega
  have e2 : ((nf : Int) != (nf2 : Int)) = true := by simp; omega
  clear hds
  go_wp2
  go_ret
  refine ⟨false, rfl, ⟨(fun h => by cases h), fun h => absurd h HNE.out⟩, ?_⟩
  exact HK1.out
 case pos =>
 subst hl
 subst hds
 have HLL : Hid (fs.length = fs2.length) := HNF.out.symm.trans HNF2.out
 go_wp2_with fail
 clear a0 a1 a2 b0 b1 b2 hcv1 hcv2 hneq
 go_loopw [5] (fun iv wr => ∃ (i : Nat), iv = .int .i64 (i : Int) ∧ Hid (i ≤ nf) ∧ Hid (fs.take i = fs2.take i) ∧ Hid (Kept (fun _ => False) W1 wr)) (fun iv _ => nf - (intOf iv).toNat)
 case atStart => exact ⟨0, rfl, Nat.zero_le _, (by show _ = _; rfl), Kept.refl _ _⟩
 case round =>
  obtain ⟨i, rfl, HI, HT, HK⟩ := hrel
  obtain ⟨a0, a1, a2, _⟩ := look3 (box_kept HK.out HX1.out id)
  have hnfB : (nf : Int) ≤ 10000000000000 := by omega
  by_cases hlt : i < nf
  ·have hltI : (i : Int) < (nf : Int) := by omega
   have hli : i < fs.length := by rw [← HNF.out]; exact hlt
   have hli2 : i < fs2.length := by rw [← HNF2.out]; exact hlt
   have hg1 := HF1.out.kept HK.out (fun _ _ f => f)
   obtain ⟨g1, o1, f, e1, -, hfi, hfa1⟩ := hg1.at (i := i) hli
   obtain ⟨g2, o2, f', e2, -, hfi', hfa2⟩ := (HF2.out.kept HK.out (fun _ _ f => f)).at (i := i) hli2
   subst e1
   subst e2
   obtain ⟨ca1, cc1, r0, r1, r2, r3, hri1, -⟩ := fn_read hfa1
   obtain ⟨ca2, cc2, q0, q1, q2, q3, hri2, -⟩ := fn_read hfa2
   have hfok := HOF.out f (List.mem_of_getElem? hfi)
   have hfok2 := HOF2.out f' (List.mem_of_getElem? hfi')
   have HCL : Hid (f.code.length ≤ 9223372036854775807) := by have := hfok.len; show _ ≤ _; omega
   have HCL2 : Hid (f'.code.length ≤ 9223372036854775807) := by have := hfok2.len; show _ ≤ _; omega
   have HFI := hid_of hfi
   have HFJ := hid_of hfi'
   have HDF : Hid (f ≠ f' → (⟨mem, ds, fs⟩ : PG) ≠ ⟨mem, ds, fs2⟩) := fun h e => by
    injection e with _ _ e
    subst e
    rw [HFI.out] at HFJ
    exact h (Option.some.inj HFJ.out)
   have HTS : Hid (f = f' → fs.take (i + 1) = fs2.take (i + 1)) := fun h => by
    rw [List.take_add_one, List.take_add_one, HT.out, HFI.out, HFJ.out, h]
   obtain ⟨fa, fl, fr, code⟩ := f
   obtain ⟨ga, gl, gr, code2⟩ := f'
   simp only at r0 r1 r2 r3 q0 q1 q2 q3 hri1 hri2 HCL HCL2
   obtain ⟨nc, hnc⟩ := nmd (code.length)
   obtain ⟨nc2, hnc2⟩ := nmd (code2.length)
   rw [← hnc] at r3 hri1 HCL
   rw [← hnc2] at q3 hri2 HCL2
   have hk5 : Kept (fun _ => False) wr (wr.alloc (.cells #[.int .i64 fa, .int .i64 fl, .int .i64 fr, .slice ca1 nc cc1] 51)) := (Kept.refl _ _).alloc _
   have HY := hid_of (heap_alloc_new wr (.cells #[.int .i64 fa, .int .i64 fl, .int .i64 fr, .slice ca1 nc cc1] 51))
   have HK5 := hid_of (HK.out.trans hk5)
   have HQ := hid_of (And.intro q0 (And.intro q1 (And.intro q2 q3)))
   have HR1 := hid_of hri1
   have HR2 := hid_of hri2
   have HKY := hid_of hk5
   have HNC := hid_of hnc
   have HNC2 := hid_of hnc2
   clear hg1 hfi hfi' hfa1 hfa2 hri1 hri2 hfok hfok2 hli hli2 hk5 q0 q1 q2 q3 hnc hnc2 HFI HFJ
   go_upto_region 7 with fail
   clear r0 r1 r2 r3 a0 a1 a2
   have HQ5 : Hid ((wr.alloc (.cells #[.int .i64 fa, .int .i64 fl, .int .i64 fr, .slice ca1 nc cc1] 51)).cell? ⟨g2, o2 + i * 4, none⟩ = some (.int .i64 ga) ∧ (wr.alloc (.cells #[.int .i64 fa, .int .i64 fl, .int .i64 fr, .slice ca1 nc cc1] 51)).cell? ⟨g2, o2 + i * 4 + 1, none⟩ = some (.int .i64 gl) ∧ (wr.alloc (.cells #[.int .i64 fa, .int .i64 fl, .int .i64 fr, .slice ca1 nc cc1] 51)).cell? ⟨g2, o2 + i * 4 + 2, none⟩ = some (.int .i64 gr) ∧ (wr.alloc (.cells #[.int .i64 fa, .int .i64 fl, .int .i64 fr, .slice ca1 nc cc1] 51)).cell? ⟨g2, o2 + i * 4 + 3, none⟩ = some (.slice ca2 nc2 cc2)) :=
    ⟨HKY.out.cell HQ.out.1 id, HKY.out.cell HQ.out.2.1 id, HKY.out.cell HQ.out.2.2.1 id, HKY.out.cell HQ.out.2.2.2 id⟩
   generalize wr.alloc (.cells #[.int .i64 fa, .int .i64 fl, .int .i64 fr, .slice ca1 nc cc1] 51) = w5 at *
   generalize wr.heap.size = gy at *
   obtain ⟨b0, b1, b2, _⟩ := look3 (box_kept HK5.out HX2.out id)
   obtain ⟨r0, r1, r2, r3⟩ := HQ5.out
   have hk6 : Kept (fun _ => False) w5 (w5.alloc (.cells #[.int .i64 ga, .int .i64 gl, .int .i64 gr, .slice ca2 nc2 cc2] 51)) := (Kept.refl _ _).alloc _
   have HZ := hid_of (heap_alloc_new w5 (.cells #[.int .i64 ga, .int .i64 gl, .int .i64 gr, .slice ca2 nc2 cc2] 51))
   have HY6 := hid_of (box_kept hk6 HY.out id)
   have HK6 := hid_of (HK5.out.trans hk6)
   have HKR := hid_of (HKY.out.trans hk6)
   clear hk6 HY HK5 HQ5 HKY HQ
   go_upto_region 8 with fail
   clear r0 r1 r2 r3 b0 b1 b2
   generalize w5.alloc (.cells #[.int .i64 ga, .int .i64 gl, .int .i64 gr, .slice ca2 nc2 cc2] 51) = w6 at *
   generalize w5.heap.size = gz at *
   obtain ⟨y0, y1, y2, y3, _⟩ := look4 HY6.out
   obtain ⟨z0, z1, z2, z3, _⟩ := look4 HZ.out
   by_cases ha : fa = ga
   case neg =>
    have HNE := hid_of (HDF.out (fun h => by injection h with e; exact ha e))
    have e1 : (fa == ga) = false := by simpa using ha
    have e2 : (fa != ga) = true := by simpa using ha
    go_wp2
    go_ret
    refine ⟨false, rfl, ⟨(fun h => by cases h), fun h => absurd h HNE.out⟩, ?_⟩
    exact HK1.out.trans HK6.out
   case pos =>
   subst ha
   by_cases hb : fl = gl
   case neg =>
    have HNE := hid_of (HDF.out (fun h => by injection h with _ e; exact hb e))
    have e1 : (fl == gl) = false := by simpa using hb
    have e2 : (fl != gl) = true := by simpa using hb
    go_wp2
    go_ret
    refine ⟨false, rfl, ⟨(fun h => by cases h), fun h => absurd h HNE.out⟩, ?_⟩
    exact HK1.out.trans HK6.out
   case pos =>
   subst hb
   by_cases hc : fr = gr
   case neg =>
    have HNE := hid_of (HDF.out (fun h => by injection h with _ _ e; exact hc e))
    have e1 : (fr == gr) = false := by simpa using hc
    have e2 : (fr != gr) = true := by simpa using hc
    go_wp2
    go_ret
    refine ⟨false, rfl, ⟨(fun h => by cases h), fun h => absurd h HNE.out⟩, ?_⟩
    exact HK1.out.trans HK6.out
   case pos =>
   subst hc
   have HSC := hid_of (same_any (.slice ca1 nc cc1) (.slice ca2 nc2 cc2) code code2 w6 (HR1.out.kept HKR.out (fun _ _ f => f)) (HR2.out.kept HKR.out (fun _ _ f => f)) (by rw [← HNC.out]; exact HCL.out) (by rw [← HNC2.out]; exact HCL2.out))
   clear HR1 HR2 HNC HNC2 HCL HCL2
   by_cases hsi : sameI code code2 = true
   case neg =>
    have hsf : sameI code code2 = false := by simpa using hsi
    have HNE := hid_of (HDF.out (fun h => by injection h with _ _ _ e; rw [e, sameI_refl] at hsi; exact hsi rfl))
    rw [hsf] at HSC
    clear hsi hsf
    go_wp2_with fail
    refine HSC.out.mono ?_
    rintro e w7 ⟨rfl, nq, hw7⟩
    have HK7 : Hid (Kept (fun _ => False) W1 w7) := by
     show Kept _ _ _
     rw [hw7]
     exact kept_drewN HK6.out nq
    clear hw7 HSC HK6 HY6 HZ y0 y1 y2 y3 z0 z1 z2 z3 HKR
    go_wp2
    go_ret
    refine ⟨false, rfl, ⟨(fun h => by cases h), fun h => absurd h HNE.out⟩, ?_⟩
    exact HK1.out.trans HK7.out
   case pos =>
   rw [hsi] at HSC
   have HTN := hid_of (HTS.out (by rw [sameI_eq hsi]))
   clear hsi
   go_wp2_with fail
   refine HSC.out.mono ?_
   rintro e w7 ⟨rfl, nq, hw7⟩
   have HK7 : Hid (Kept (fun _ => False) W1 w7) := by
    show Kept _ _ _
    rw [hw7]
    exact kept_drewN HK6.out nq
   clear hw7 HSC HK6 HY6 HZ y0 y1 y2 y3 z0 z1 z2 z3 HKR HDF HTS
   go_wp2
   go_roundw
   case rel => exact ⟨i + 1, by go_num, hlt, HTN, HK7⟩
   case measure => simp [intOf]; omega
  ·have hltI : ¬ (i : Int) < (nf : Int) := by omega
   have HEQ : Hid (fs = fs2) := by
    have h1 : fs.take i = fs := List.take_of_length_le (by have := HNF.out; omega)
    have h2 : fs2.take i = fs2 := List.take_of_length_le (by have := HNF2.out; omega)
    show _ = _
    rw [← h1, ← h2, HT.out]
   go_wp2
   go_ret
   exact ⟨true, rfl, ⟨fun _ => by rw [HEQ.out], fun _ => rfl⟩, HK1.out.trans HK.out⟩
theorem src_read : ∃ R, readP srcB.data.toList = .inr R ∧ pgG R = p1 := by
 refine ⟨⟨0, false, [], [⟨⟨#[109, 97, 105, 110]⟩, 0, 0, 1, [], [⟨18, 0⟩]⟩], []⟩, ?_, rfl⟩
 have e1 : linesP R0 1 (linesL srcB.data.toList) = .inr ⟨0, false, [], [⟨⟨#[109, 97, 105, 110]⟩, 0, 0, 1, [], [⟨18, 0⟩]⟩], []⟩ := by kernel_rfl
 unfold readP
 rw [if_neg (by decide), e1]
 simp only [settleF]
 exact if_pos p1_check
end Go.Proofs.YtpfmhibdmehlcaaGreatDoor

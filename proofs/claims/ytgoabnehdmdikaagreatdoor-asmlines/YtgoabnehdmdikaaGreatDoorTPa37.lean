import Derived.Test.YtgoabnehdmdikaaGreatDoorTPa35
import Derived.Test.YtgoabnehdmdikaaGreatDoorTPa2
import Derived.Test.YtgoabnehdmdikaaGreatDoorTPa4
import Derived.Deep.MidRow
import Derived.Test.YtgoabnehdmdikaaGreatDoorTPa36
import Derived.Test.YtgoabnehdmdikaaGreatDoorTPa6
import Derived.Lib.ItoaLen
import Derived.Test.YtgoabnehdmdikaaGreatDoorTPa13
import Derived.Test.YtgoabnehdmdikaaGreatDoorTPa8
import Derived.Laws.BytesString
import Derived.Laws.IdiomCopy
import Derived.Lib.ConvBytes
import Derived.Test.YtgoabnehdmdikaaGreatDoorTPa33
import Derived.Deep.QuietTactic
import Derived.BigQuiet
import Derived.Lib.OthersKept
import Derived.Test.YtgoabnehdmdikaaGreatDoorTPa7
import Derived.Test.YtgoabnehdmdikaaGreatDoorTPa22
import Derived.Test.YtgoabnehdmdikaaGreatDoorTPa11
import Derived.Test.YtgoabnehdmdikaaGreatDoorTPa23
import Derived.Test.YtgoabnehdmdikaaGreatDoorTPa21
import Derived.Test.YtgoabnehdmdikaaGreatDoorTPa28
import Derived.Test.YtgoabnehdmdikaaGreatDoorTPa34
import Derived.Test.YtgoabnehdmdikaaGreatDoorRows
import Derived.ProofKit
import Derived.LaidMore
import Derived.Lay
import Derived.OpenShut
import Derived.Stop.Joined
import Derived.Stop.LaidErr
import Derived.HandedShaped
import Derived.Shelf.Vars
import Derived.Test.YtgoabnehdmdikaaGreatDoorTPa9
import Derived.Stop.LaidTwo
namespace Go.Proofs.YtgoabnehdmdikaaGreatDoor
open Go.RowKit
set_option linter.unusedVariables false
set_option linter.unusedSimpArgs false
set_option maxRecDepth 100000
theorem neqS (s : ByteArray) (w : World) : (binOp .neq 9 (.string s) (.string s)).run Tryz.prog w = .ok (.bool false) w := by
 go_simp
set_option maxHeartbeats 16000000 in
theorem sameG (v1 v2 : Value) (p : PG) (w : World) (B1 B2 : Nat) (h1 : PgIs w B1 v1 p) (h2 : PgIs w B2 v2 p) (ho : p.Ok) :
  Calls Tryz.prog 11 #[v1, v2] w fun e w' => e = .returned (.bool true) ∧ Kept (fun _ => False) w w' := by
 obtain ⟨dv1, fv1, rfl, hd1, _, hf1⟩ := h1
 obtain ⟨dv2, fv2, rfl, hd2, _, hf2⟩ := h2
 obtain ⟨da1, dc1, rfl⟩ := hd1.shape
 obtain ⟨fa1, fc1, rfl⟩ := hf1.shape
 obtain ⟨da2, dc2, rfl⟩ := hd2.shape
 obtain ⟨fa2, fc2, rfl⟩ := hf2.shape
 have hlf := ho.len
 have HOF := hid_of ho.fns
 obtain ⟨mem, ds, fs⟩ := p
 simp only at hlf hf1 hf2 hd1 hd2 HOF ⊢
 obtain ⟨nf, hnf⟩ := nmd (fs.length)
 obtain ⟨nd, hnd⟩ := nmd (ds.length)
 rw [← hnf] at hlf hf1 hf2 ⊢
 rw [← hnd] at hd1 hd2 ⊢
 obtain ⟨W1, hW1⟩ := nmd ((w.alloc (.cells #[.int .i64 mem, .slice da1 nd dc1, .slice fa1 nf fc1] 26)).alloc (.cells #[.int .i64 mem, .slice da2 nd dc2, .slice fa2 nf fc2] 26))
 obtain ⟨k1, x1, x2⟩ := allocs2 _ _ _ _ _ _ hW1
 have HK1 := hid_of k1
 have HX1 := hid_of x1
 have HX2 := hid_of x2
 have HF1 := hid_of (hf1.kept k1 (fun _ _ f => f))
 have HF2 := hid_of (hf2.kept k1 (fun _ _ f => f))
 have HNF := hid_of hnf
 have hcv1 := conv_str W1 (.slice da1 nd dc1) ds (hd1.kept k1 (fun _ _ f => f))
 have hcv2 := conv_str W1 (.slice da2 nd dc2) ds (hd2.kept k1 (fun _ _ f => f))
 generalize str ds = sd at *
 have hneq := neqS sd W1
 clear hf1 hf2 hd1 hd2 hnf hnd k1 x1 x2 ho
 go_enter Tryz.func11, Tryz.ntmps11
 go_upto_region 1 with fail
 rw [← hW1]
 clear hW1
 generalize w.heap.size + 1 = gb at *
 generalize w.heap.size = ga at *
 obtain ⟨a0, a1, a2, _⟩ := look3 HX1.out
 obtain ⟨b0, b1, b2, _⟩ := look3 HX2.out
 go_wp2_with fail
 clear a0 a1 a2 b0 b1 b2 hcv1 hcv2 hneq
 go_loopw [5] (fun iv wr => ∃ (i : Nat), iv = .int .i64 (i : Int) ∧ Hid (i ≤ nf) ∧ Hid (Kept (fun _ => False) W1 wr)) (fun iv _ => nf - (intOf iv).toNat)
 case atStart => exact ⟨0, rfl, Nat.zero_le _, Kept.refl _ _⟩
 case round =>
  obtain ⟨i, rfl, HI, HK⟩ := hrel
  obtain ⟨a0, a1, a2, _⟩ := look3 (box_kept HK.out HX1.out id)
  have hnfB : (nf : Int) ≤ 10000000000000 := by omega
  by_cases hlt : i < nf
  ·have hltI : (i : Int) < (nf : Int) := by omega
   have hli : i < fs.length := by rw [← HNF.out]; exact hlt
   have hg1 := HF1.out.kept HK.out (fun _ _ f => f)
   obtain ⟨g1, o1, f, e1, -, hfi, hfa1⟩ := hg1.at (i := i) hli
   obtain ⟨g2, o2, f', e2, -, hfi', hfa2⟩ := (HF2.out.kept HK.out (fun _ _ f => f)).at (i := i) hli
   rw [hfi] at hfi'
   cases hfi'
   subst e1
   subst e2
   obtain ⟨ca1, cc1, r0, r1, r2, r3, hri1, -⟩ := fn_read hfa1
   obtain ⟨ca2, cc2, q0, q1, q2, q3, hri2, -⟩ := fn_read hfa2
   have hfok := HOF.out f (List.mem_of_getElem? hfi)
   have HCL : Hid (f.code.length ≤ 9223372036854775807) := by have := hfok.len; show _ ≤ _; omega
   obtain ⟨fa, fl, fr, code⟩ := f
   simp only at r0 r1 r2 r3 q0 q1 q2 q3 hri1 hri2 HCL
   obtain ⟨nc, hnc⟩ := nmd (code.length)
   rw [← hnc] at r3 q3 hri1 hri2 HCL
   have hk5 : Kept (fun _ => False) wr (wr.alloc (.cells #[.int .i64 fa, .int .i64 fl, .int .i64 fr, .slice ca1 nc cc1] 78)) := (Kept.refl _ _).alloc _
   have HY := hid_of (heap_alloc_new wr (.cells #[.int .i64 fa, .int .i64 fl, .int .i64 fr, .slice ca1 nc cc1] 78))
   have HK5 := hid_of (HK.out.trans hk5)
   have HQ := hid_of (And.intro q0 (And.intro q1 (And.intro q2 q3)))
   have HR1 := hid_of hri1
   have HR2 := hid_of hri2
   have HKY := hid_of hk5
   have HNC := hid_of hnc
   clear hg1 hfi hfa1 hfa2 hri1 hri2 hfok hli hk5 q0 q1 q2 q3 hnc
   go_upto_region 7 with fail
   clear r0 r1 r2 r3 a0 a1 a2
   have HQ5 : Hid ((wr.alloc (.cells #[.int .i64 fa, .int .i64 fl, .int .i64 fr, .slice ca1 nc cc1] 78)).cell? ⟨g2, o2 + i * 4, none⟩ = some (.int .i64 fa) ∧ (wr.alloc (.cells #[.int .i64 fa, .int .i64 fl, .int .i64 fr, .slice ca1 nc cc1] 78)).cell? ⟨g2, o2 + i * 4 + 1, none⟩ = some (.int .i64 fl) ∧ (wr.alloc (.cells #[.int .i64 fa, .int .i64 fl, .int .i64 fr, .slice ca1 nc cc1] 78)).cell? ⟨g2, o2 + i * 4 + 2, none⟩ = some (.int .i64 fr) ∧ (wr.alloc (.cells #[.int .i64 fa, .int .i64 fl, .int .i64 fr, .slice ca1 nc cc1] 78)).cell? ⟨g2, o2 + i * 4 + 3, none⟩ = some (.slice ca2 nc cc2)) :=
    ⟨HKY.out.cell HQ.out.1 id, HKY.out.cell HQ.out.2.1 id, HKY.out.cell HQ.out.2.2.1 id, HKY.out.cell HQ.out.2.2.2 id⟩
   generalize wr.alloc (.cells #[.int .i64 fa, .int .i64 fl, .int .i64 fr, .slice ca1 nc cc1] 78) = w5 at *
   generalize wr.heap.size = gy at *
   obtain ⟨b0, b1, b2, _⟩ := look3 (box_kept HK5.out HX2.out id)
   obtain ⟨r0, r1, r2, r3⟩ := HQ5.out
   have hk6 : Kept (fun _ => False) w5 (w5.alloc (.cells #[.int .i64 fa, .int .i64 fl, .int .i64 fr, .slice ca2 nc cc2] 78)) := (Kept.refl _ _).alloc _
   have HZ := hid_of (heap_alloc_new w5 (.cells #[.int .i64 fa, .int .i64 fl, .int .i64 fr, .slice ca2 nc cc2] 78))
   have HY6 := hid_of (box_kept hk6 HY.out id)
   have HK6 := hid_of (HK5.out.trans hk6)
   have HKR := hid_of (HKY.out.trans hk6)
   clear hk6 HY HK5 HQ5 HKY HQ
   go_upto_region 8 with fail
   clear r0 r1 r2 r3 b0 b1 b2
   generalize w5.alloc (.cells #[.int .i64 fa, .int .i64 fl, .int .i64 fr, .slice ca2 nc cc2] 78) = w6 at *
   generalize w5.heap.size = gz at *
   obtain ⟨y0, y1, y2, y3, _⟩ := look4 HY6.out
   obtain ⟨z0, z1, z2, z3, _⟩ := look4 HZ.out
   have hsc := same_any (.slice ca1 nc cc1) (.slice ca2 nc cc2) code code w6 (HR1.out.kept HKR.out (fun _ _ f => f)) (HR2.out.kept HKR.out (fun _ _ f => f)) (by rw [← HNC.out]; exact HCL.out) (by rw [← HNC.out]; exact HCL.out)
   rw [sameI_refl] at hsc
   have HSC := hid_of hsc
   clear hsc HR1 HR2 HNC HCL
   go_wp2_with fail
   refine HSC.out.mono ?_
   rintro e w7 ⟨rfl, nq, hw7⟩
   have HK7 : Hid (Kept (fun _ => False) W1 w7) := by
    show Kept _ _ _
    rw [hw7]
    exact kept_drewN HK6.out nq
   clear hw7 HSC HK6 HY6 HZ y0 y1 y2 y3 z0 z1 z2 z3 HKR
   go_wp2
   go_roundw
   case rel => exact ⟨i + 1, by go_num, hlt, HK7⟩
   case measure => simp [intOf]; omega
  ·have hltI : ¬ (i : Int) < (nf : Int) := by omega
   go_wp2
   go_ret
   exact ⟨rfl, HK1.out.trans HK.out⟩
theorem src_read : ∃ R, readP srcB.data.toList = .inr R ∧ pgG R = p1 := by
 refine ⟨⟨0, false, [], [⟨⟨#[109, 97, 105, 110]⟩, 0, 0, 1, [], [⟨18, 0⟩]⟩], []⟩, ?_, rfl⟩
 have e1 : linesP R0 1 (linesL srcB.data.toList) = .inr ⟨0, false, [], [⟨⟨#[109, 97, 105, 110]⟩, 0, 0, 1, [], [⟨18, 0⟩]⟩], []⟩ := by kernel_rfl
 unfold readP
 rw [if_neg (by decide), e1]
 simp only [settleF]
 exact if_pos p1_check
def pn (i : Int) : Pf := ⟨1, ⟨#[]⟩, i, false⟩
def pc : Pf := ⟨3, ⟨#[]⟩, 0, false⟩
abbrev outN : ByteArray := ⟨#[109, 101, 109, 111, 114, 121, 32, 48, 10, 102, 117, 110, 99, 32, 102, 48, 32, 48, 32, 48, 32, 49, 10, 9, 114, 101, 116, 10]⟩
theorem p1_printed : printE p1 = 0 ∧ printS p1 = outN := by
 constructor <;> kernel_rfl
theorem eqErr (w : World) : (binOp .eql 28 .nilIface .nilIface).run Tryz.prog w = .ok (.bool true) w := by kernel_rfl
theorem eqOut (w : World) : (binOp .eql 9 (.string outN) (.string outN)).run Tryz.prog w = .ok (.bool true) w := by kernel_rfl
theorem pg_shapeK {w : World} {B : Nat} {v : Value} {p : PG} (h : PgIs w B v p) : ∃ pm pda pdn pdc pfa pfn pfc, v = .agg #[.int .i64 pm, .slice pda pdn pdc, .slice pfa pfn pfc] := by
 obtain ⟨dv, fv, rfl, hd, _, hf⟩ := h
 obtain ⟨da, dc, rfl⟩ := hd.shape
 obtain ⟨fa, fc, rfl⟩ := hf.shape
 exact ⟨_, _, _, _, _, _, _, rfl⟩
theorem pg_one0 (w : World) (B : Nat) (fv : Value) (hp : Pg1 w B fv) : PgIs w w.heap.size (.agg #[.int .i64 0, .slice none 0 0, fv]) p1 := by
 obtain ⟨cv, hf, ho⟩ := hp
 obtain ⟨gf, cf, rfl⟩ := own_at hf (by decide)
 obtain ⟨gc, cc, rfl⟩ := own_at ho (by decide)
 refine ⟨_, _, rfl, .inl ⟨rfl, _, _, rfl⟩, (fun q hq => by cases hq), .inr ⟨gf, 0, cf, rfl, (hf.lt gf rfl).2, fun i f hi => ?_⟩⟩
 have hi0 : i = 0 := by
  have := (List.getElem?_eq_some_iff.1 hi).1
  simp [p1] at this
  exact this
 subst hi0
 simp [p1] at hi
 subst hi
 refine ⟨_, fun j v hv => ?_, .inr ⟨gc, 0, cc, rfl, fun i y hy => ?_⟩, fun q hq _ => (ho.lt q hq).2⟩
 ·have := hf.cells (g := gf) rfl j v hv
  rw [Addr.add_lit, Nat.zero_add] at this
  simpa using this
 ·have hi0 : i = 0 := by
   have := (List.getElem?_eq_some_iff.1 hy).1
   simp at this
   exact this
  subst hi0
  simp at hy
  subst hy
  intro j v hv
  have := ho.cells (g := gc) rfl j v hv
  rw [Addr.add_lit, Nat.zero_add] at this
  rw [show 0 + 0 * 2 + j = j by omega]
  exact this
set_option maxHeartbeats 16000000 in
theorem known_all (w : World) (hG : Gs w) : Calls Tryz.prog 7 #[] w fun e w' => e = .returned (.bool true) ∧ Kept (fun _ => False) w w' := by
 have HP := hid_of (parseG srcB (by decide) w hG)
 have HG := hid_of hG.gl
 clear hG
 go_enter Tryz.func7, Tryz.ntmps7
 go_wp2_with fail
 refine HP.out.mono ?_
 rintro e w1 ⟨hk1, hpar⟩
 obtain ⟨R0, hr0, hg0⟩ := src_read
 have hpar2 : ∃ v, e = .returned (.tuple #[v, .nilIface]) ∧ PgIs w1 w1.heap.size v p1 := by
  rcases hpar with ⟨ln, er, g, ho, _⟩ | ⟨R', v, ho, -, -, -, he, hp⟩
  ·rw [hr0] at ho
   cases ho
  ·rw [hr0] at ho
   cases ho
   rw [hg0] at hp
   exact ⟨v, he, hp⟩
 clear hpar hr0 hg0 HP
 obtain ⟨v, rfl, hpg⟩ := hpar2
 obtain ⟨pm, pda, pdn, pdc, pfa, pfn, pfc, rfl⟩ := pg_shapeK hpg
 have hka : Kept (fun _ => False) w1 (w1.alloc (.cells #[.int .i64 pm, .slice pda pdn pdc, .slice pfa pfn pfc] 26)) := (Kept.refl _ _).alloc _
 have HX := hid_of (heap_alloc_new w1 (.cells #[.int .i64 pm, .slice pda pdn pdc, .slice pfa pfn pfc] 26))
 have HPG := hid_of (hpg.kept hka (fun _ _ f => f))
 have HK := hid_of (hk1.trans hka)
 clear hka hk1 hpg
 go_upto_region 2 with fail
 generalize w1.alloc (.cells #[.int .i64 pm, .slice pda pdn pdc, .slice pfa pfn pfc] 26) = w2 at *
 generalize w1.heap.size = gp at *
 go_wp2_with fail
 refine (one_any w2).mono ?_
 rintro e w3 ⟨fa3, fc3, rfl, hpg3, hk3⟩
 have HPR := hid_of (print_any _ p1 _ w3 (HG.out.same (HK.out.trans hk3)) (pg_one0 _ _ _ hpg3) (Nat.le_refl _) p1_ok)
 rw [p1_printed.1, p1_printed.2] at HPR
 have HX3 := hid_of (box_kept hk3 HX.out id)
 have HPG3 := hid_of (HPG.out.kept hk3 (fun _ _ f => f))
 have HK3 := hid_of (HK.out.trans hk3)
 clear hpg3 hk3 HX HPG HK
 go_wp2_with fail
 refine HPR.out.mono ?_
 rintro e w4 ⟨rfl, hk4⟩
 have HX4 := hid_of (box_kept hk4 HX3.out id)
 have HPG4 := hid_of (HPG3.out.kept hk4 (fun _ _ f => f))
 have HK4 := hid_of (HK3.out.trans hk4)
 clear hk4 HPR HX3 HPG3 HK3
 go_upto_region 3 with fail
 have hKwd : Kept (fun _ => False) w4 w4.drew := (Kept.refl _ _).drew
 have HSM : Hid (∀ w', Kept (fun _ => False) w4 w' → w'.cell? ⟨gp, 0, none⟩ = some (.int .i64 pm) ∧ w'.cell? ⟨gp, 1, none⟩ = some (.slice pda pdn pdc) ∧ w'.cell? ⟨gp, 2, none⟩ = some (.slice pfa pfn pfc)) := fun w' hw =>
  ⟨hw.cell (cell_block _ _ 0 _ _ _ HX4.out) id, hw.cell (cell_block _ _ 1 _ _ _ HX4.out) id, hw.cell (cell_block _ _ 2 _ _ _ HX4.out) id⟩
 refine wp_region_held_drew (S := fun w' => Kept (fun _ => False) w4 w') (by kernel_rfl) ((Kept.refl _ _).drew) (fun hHeld => ?_)
 generalize w4.drew = wd at *
 have HO := hid_of (one_any wd)
 iterate 8
  refine tkn (v := ?_) 0 rfl ?_ ?_; rotate_left 1
  ·intro w hSw; obtain ⟨s0, s1, s2⟩ := HSM.out w hSw; have s3 := eqErr w; have s4 := eqOut w; go_simp; try with_reducible rfl
  try simp only [Act.put, tdy]
 refine rdy 8 rfl (fun K hK => ?_)
 go_simp
 refine HO.out.mono ?_
 rintro e w5 ⟨fa5, fc5, rfl, hpg5, hk5⟩
 have HSA := hid_of (sameG _ _ p1 w5 _ _ ((HPG4.out.kept hKwd (fun _ _ f => f)).kept hk5 (fun _ _ f => f)) (pg_one0 _ _ _ hpg5) p1_ok)
 have HK5 := hid_of (hKwd.trans hk5)
 refine hK.out _ _ (hKwd.trans hk5) (fun hHeld => ?_)
 clear hK K hpg5 HO
 try simp only [Act.put, tdy]
 refine rdy 9 rfl (fun K hK => ?_)
 go_simp
 refine HSA.out.mono ?_
 rintro e w6 ⟨rfl, hk6⟩
 have HK6 := hid_of (HK4.out.trans (HK5.out.trans hk6))
 refine hK.out _ _ (HK5.out.trans hk6) (fun hHeld => ?_)
 clear hK K HSA
 try simp only [Act.put, tdy]
 iterate 5
  refine tkn (v := ?_) 10 rfl ?_ ?_; rotate_left 1
  ·intro w hSw; obtain ⟨s0, s1, s2⟩ := HSM.out w hSw; have s3 := eqErr w; have s4 := eqOut w; go_simp; try with_reducible rfl
  try simp only [Act.put, tdy]
 refine rdy 15 rfl (fun K hK => ?_)
 go_simp
 refine hK.out _ _ hHeld (fun hHeld => ?_)
 clear hK K
 try simp only [Act.put, tdy]
 refine wpAnyH_done (by kernel_rfl) ?_ _
 clear hHeld hk6 hk5 hKwd HSM HPG4 HX4 HK4 HK5
 go_wp2
 go_ret
 exact ⟨rfl, HK6.out⟩
theorem ta_ptr (w : World) (g : Nat) : (Instr.typeAssert (.iface 52 (.pointer (some ⟨g, 0, none⟩))) 28 52 true).run Tryz.prog w = .ok (.tuple #[.pointer (some ⟨g, 0, none⟩), .bool true]) w := by kernel_rfl
theorem ta_err (w : World) (e : Int) : (Instr.typeAssert (.iface 41 (.int .i64 e)) 28 41 true).run Tryz.prog w = .ok (.tuple #[.int .i64 e, .bool true]) w := by kernel_rfl
def ErrIs (w : World) (ev : Value) (er ln : Int) : Prop := (ev = .nilIface ∧ er = 0 ∧ ln = 0) ∨ ∃ g, ev = .iface 52 (.pointer (some ⟨g, 0, none⟩)) ∧ er ≠ 0 ∧ w.heap[g]? = some (.cells #[.int .i64 ln, .iface 41 (.int .i64 er)] 54 (0, 0))
theorem ErrIs.same {w w' : World} {ev : Value} {er ln : Int} (h : ErrIs w ev er ln) (hk : Kept (fun _ => False) w w') : ErrIs w' ev er ln := by
 rcases h with h | ⟨g, h1, h2, h3⟩
 ·exact .inl h
 ·exact .inr ⟨g, h1, h2, box_kept hk h3 id⟩
set_option maxHeartbeats 8000000 in
theorem told_any (ev : Value) (er ln : Int) (w : World) (h : ErrIs w ev er ln) : Calls Tryz.prog 9 #[ev] w fun e w' => e = .returned (.tuple #[.int .i64 er, .int .i64 ln, .bool true]) ∧ Kept (fun _ => False) w w' := by
 rcases h with ⟨rfl, rfl, rfl⟩ | ⟨g, rfl, he, hg⟩
 ·go_enter Tryz.func9, Tryz.ntmps9
  go_wp2
  refine bodyPost_ret (results_tmp3 rfl _ _ _) rfl ?_
  exact ⟨rfl, Kept.refl _ _⟩
 ·have ht1 := ta_ptr w g
  have ht2 := ta_err w er
  have c0 := cell_block _ _ 0 _ _ _ hg
  have c1 := cell_block _ _ 1 _ _ _ hg
  have e0 : (er == 0) = false := by simpa using he
  have e1 : (er != 0) = true := by simpa using he
  have HG := hid_of hg
  clear hg he
  go_enter Tryz.func9, Tryz.ntmps9
  go_upto_region 7 with fail
  clear c0 c1 ht1 ht2
  have hkd : Kept (fun _ => False) w w.drew := (Kept.refl _ _).drew
  have hgd := box_kept hkd HG.out id
  have HKD := hid_of hkd
  refine wp_region_held_drew (S := fun w' => w' = w.drew) (by kernel_rfl) rfl (fun hHeld => ?_)
  generalize w.drew = wd at *
  have c0 := cell_block _ _ 0 _ _ _ hgd
  clear hgd hkd
  iterate 4
   refine tkn (v := ?_) 0 rfl ?_ ?_; rotate_left 1
   ·intro w hSw; go_simp; try with_reducible rfl
   try simp only [Act.put, tdy]
  iterate 1
   refine tkn (v := ?_) 4 rfl ?_ ?_; rotate_left 1
   ·intro w hSw; have hSw := hSw.symm; subst hSw; go_simp; try with_reducible rfl
   try simp only [Act.put, tdy]
  iterate 8
   refine tkn (v := ?_) 5 rfl ?_ ?_; rotate_left 1
   ·intro w hSw; go_simp; try with_reducible rfl
   try simp only [Act.put, tdy]
  refine wpAnyH_done (by kernel_rfl) ?_ _
  clear c0 hHeld
  go_wp2
  refine bodyPost_ret (results_tmp3 rfl _ _ _) rfl ?_
  exact ⟨rfl, HKD.out⟩
def pO : (Int × Int) ⊕ Rdr → PG
 | .inl _ => ⟨0, [], []⟩
 | .inr R => pgG R
def eO : (Int × Int) ⊕ Rdr → Int × Int
 | .inl (ln, er) => (er, ln)
 | .inr _ => (0, 0)
theorem pg_shape {w : World} {B : Nat} {v : Value} {p : PG} (h : PgIs w B v p) : ∃ pm pda pdn pdc pfa pfn pfc, v = .agg #[.int .i64 pm, .slice pda pdn pdc, .slice pfa pfn pfc] := by
 obtain ⟨dv, fv, rfl, hd, _, hf⟩ := h
 obtain ⟨da, dc, rfl⟩ := hd.shape
 obtain ⟨fa, fc, rfl⟩ := hf.shape
 exact ⟨_, _, _, _, _, _, _, rfl⟩
theorem pg_zero (w : World) (B : Nat) : PgIs w B (.agg #[.int .i64 0, .slice none 0 0, .slice none 0 0]) ⟨0, [], []⟩ := ⟨_, _, rfl, .inl ⟨rfl, _, _, rfl⟩, (fun q hq => by cases hq), .inl ⟨rfl, _, _, rfl⟩⟩
theorem pg_zero_ok : (⟨0, [], []⟩ : PG).Ok := ⟨by decide, ⟨fun x hx => absurd hx List.not_mem_nil, by decide⟩, fun f hf => absurd hf List.not_mem_nil, by decide⟩
def ParS (o : (Int × Int) ⊕ Rdr) (w : World) (e : Ending) (w' : World) : Prop :=
 Kept (fun _ => False) w w' ∧ (pO o).Ok ∧ ∃ pm pda pdn pdc pfa pfn pfc ev, e = .returned (.tuple #[.agg #[.int .i64 pm, .slice pda pdn pdc, .slice pfa pfn pfc], ev]) ∧ PgIs w' w'.heap.size (.agg #[.int .i64 pm, .slice pda pdn pdc, .slice pfa pfn pfc]) (pO o) ∧ ErrIs w' ev (eO o).1 (eO o).2
def RefS (o : (Int × Int) ⊕ Rdr) (w : World) (e : Ending) (w' : World) : Prop :=
 Kept (fun _ => False) w w' ∧ ∃ rm rda rdn rdc rfa rfn rfc, e = .returned (.tuple #[.agg #[.int .i64 rm, .slice rda rdn rdc, .slice rfa rfn rfc], .int .i64 (eO o).1, .int .i64 (eO o).2]) ∧ PgIs w' w'.heap.size (.agg #[.int .i64 rm, .slice rda rdn rdc, .slice rfa rfn rfc]) (pO o)
theorem parR_S {o : (Int × Int) ⊕ Rdr} {w w' : World} {e : Ending} (h : ParR o w e w') : ParS o w e w' := by
 obtain ⟨hk, ⟨ln, er, g, rfl, he, rfl, hg⟩ | ⟨R', v, rfl, hc, hn, ho, rfl, hp⟩⟩ := h
 ·exact ⟨hk, pg_zero_ok, _, _, _, _, _, _, _, _, rfl, pg_zero _ _, .inr ⟨g, rfl, he, hg⟩⟩
 ·obtain ⟨pm, pda, pdn, pdc, pfa, pfn, pfc, rfl⟩ := pg_shape hp
  exact ⟨hk, pgG_ok hn ho, _, _, _, _, _, _, _, _, rfl, hp, .inl ⟨rfl, rfl, rfl⟩⟩
theorem refR_S {o : (Int × Int) ⊕ Rdr} {w w' : World} {e : Ending} (h : RefR o w e w') : RefS o w e w' := by
 obtain ⟨hk, ⟨ln, er, rfl, he, rfl⟩ | ⟨R', v, rfl, rfl, hp⟩⟩ := h
 ·exact ⟨hk, _, _, _, _, _, _, _, rfl, pg_zero _ _⟩
 ·obtain ⟨pm, pda, pdn, pdc, pfa, pfn, pfc, rfl⟩ := pg_shape hp
  exact ⟨hk, _, _, _, _, _, _, _, rfl, hp⟩
set_option maxHeartbeats 16000000 in
theorem parses_walk (D : ByteArray) (hD : D.size ≤ 9223372036854775807) (w : World) (hG : Gs w) : Calls Tryz.prog 3 #[.string D] w fun e w' => e = .returned (.bool true) ∧ Kept (fun _ => False) w w' := by
 have HKN := hid_of (known_all w hG)
 have HG := hid_of hG
 have HDS := hid_of hD
 clear hG hD
 go_enter Tryz.func3, Tryz.ntmps3
 go_wp2_with fail
 refine HKN.out.mono ?_
 rintro e w1 ⟨rfl, hk1⟩
 have HPA := hid_of (parseG D HDS.out w1 (HG.out.same hk1))
 have HK1 := hid_of hk1
 have HRE := hid_of (fun wx => refR D HDS.out wx)
 clear hk1 HKN
 generalize readP D.data.toList = O at *
 go_wp2_with fail
 refine HPA.out.mono ?_
 rintro e w2 hpar
 obtain ⟨hk2, hok, pm, pda, pdn, pdc, pfa, pfn, pfc, ev, rfl, hpg, her⟩ := parR_S hpar
 obtain ⟨er, hre⟩ := nmd ((eO O).1)
 obtain ⟨ln, hln⟩ := nmd ((eO O).2)
 rw [← hre, ← hln] at her
 have HRL : Hid (er = (eO O).1 ∧ ln = (eO O).2) := ⟨hre, hln⟩
 have HOK := hid_of hok
 have hka : Kept (fun _ => False) w2 (w2.alloc (.cells #[.int .i64 pm, .slice pda pdn pdc, .slice pfa pfn pfc] 26)) := (Kept.refl _ _).alloc _
 have HX := hid_of (heap_alloc_new w2 (.cells #[.int .i64 pm, .slice pda pdn pdc, .slice pfa pfn pfc] 26))
 have HPG := hid_of (hpg.kept hka (fun _ _ f => f))
 have HTO := hid_of (told_any ev er ln _ (her.same hka))
 have HK2 := hid_of (HK1.out.trans (hk2.trans hka))
 clear hpar hk2 hok hpg her hre hln hka HPA HK1
 go_upto_region 4 with fail
 generalize w2.alloc (.cells #[.int .i64 pm, .slice pda pdn pdc, .slice pfa pfn pfc] 26) = w3 at *
 generalize w2.heap.size = gp at *
 go_wp2_with fail
 refine HTO.out.mono ?_
 rintro e w4 ⟨rfl, hk4⟩
 have HK4 := hid_of (HK2.out.trans hk4)
 have HX4 := hid_of (box_kept hk4 HX.out id)
 have HPG4 := hid_of (HPG.out.kept hk4 (fun _ _ f => f))
 clear hk4 HTO HX HPG HK2
 go_wp2_with fail
 refine (HRE.out w4).mono ?_
 rintro e w5 href
 obtain ⟨hk5, rm, rda, rdn, rdc, rfa, rfn, rfc, rfl, hrg⟩ := refR_S href
 rw [← HRL.out.1, ← HRL.out.2]
 have hka : Kept (fun _ => False) w5 (w5.alloc (.cells #[.int .i64 rm, .slice rda rdn rdc, .slice rfa rfn rfc] 26)) := (Kept.refl _ _).alloc _
 have HY := hid_of (heap_alloc_new w5 (.cells #[.int .i64 rm, .slice rda rdn rdc, .slice rfa rfn rfc] 26))
 have HX5 := hid_of (box_kept (hk5.trans hka) HX4.out id)
 have HSM := hid_of (sameG _ _ (pO O) _ _ _ (HPG4.out.kept (hk5.trans hka) (fun _ _ f => f)) (hrg.kept hka (fun _ _ f => f)) HOK.out)
 have HK6 := hid_of (HK4.out.trans (hk5.trans hka))
 clear href hk5 hrg hka HRE HX4 HPG4 HK4 HRL HOK
 go_upto_region 6 with fail
 generalize w5.alloc (.cells #[.int .i64 rm, .slice rda rdn rdc, .slice rfa rfn rfc] 26) = w6 at *
 generalize w5.heap.size = gr at *
 obtain ⟨a0, a1, a2, _⟩ := look3 HX5.out
 obtain ⟨b0, b1, b2, _⟩ := look3 HY.out
 go_wp2_with fail
 refine HSM.out.mono ?_
 rintro e w7 ⟨rfl, hk7⟩
 have HK7 := hid_of (HK6.out.trans hk7)
 clear hk7 HSM a0 a1 a2 b0 b1 b2
 go_wp2
 go_ret
 exact ⟨rfl, HK7.out⟩
end Go.Proofs.YtgoabnehdmdikaaGreatDoor
namespace Go.Proofs.YtgoabnehdmdikaaGreatDoor
open Go.ChangeShapes Go.WideShapes Go.ChangeAt Go.WideMaps Go.WideElems Go.RowKit
set_option linter.unusedVariables false
set_option linter.unusedSimpArgs false
set_option maxRecDepth 100000
theorem handed_and_shaped {H : Type} {enc : TypeId × Value → H} {a : Assume} {C : Checked} {os : Os} {f : FuncId} {fn : Func} {s : ChangeSpec} {conds : List PathCond} {apart fresh handsOn again : Bool} {X : World → Array Value → Prop}
  (hX : ∀ (w w' : World) (args : Array Value), w.heap = w'.heap → X w args → X w' args)
  (own : ownKnob C.prog.godebug = none) (started : os.Started) (noInit : C.prog.inits.idxOf? f = none) (hfn : C.prog.funcs[f]? = some fn)
  (witness : ∃ (w : World) (tape : Tape) (i : Input), w.os = os ∧ (w.forCall tape i).Shaped C.prog ∧ i.vars = [] ∧ Input.okWide C.prog (w.forCall tape i) .any w.heap.size f i ∧
   ((s.pre enc C.prog fn conds apart (w.forCall tape i).memory i.args ∧ X (w.forCall tape i).memory i.args) ∧ sizedMet enc C.prog fn (OpenSpec.ofChange s) apart (w.forCall tape i).memory i.args) ∧ a.holds C.prog (lone (Frame.enter C.prog f i.args .normal) [] (w.forCall tape i)))
  (contract : ∀ (W : World) (base : Nat) (args : Array Value) (ds gs : List (DataW H)) (before : List MemPlace),
   (∀ (j : Nat) t v, fn.params[j]? = some t → args[j]? = some v → Value.okWide C.prog W .any base t v) →
   DataW.Whole enc C.prog fn.params.toList s.vars apart W args.toList ds gs before → (DataW.weightsEach C.prog (fn.params.toList ++ s.plain.varTypes C.prog) (ds ++ gs)).all (· ≤ reachBytes) = true → X W args → W.ShapedOpen C.prog →
   Calls C.prog f args W fun e W' => ∃ v, e = .returned v ∧ s.post enc C.prog fn apart fresh handsOn again W args v W') :
  ReturnsInHanded a C os f .any (fun w args => (s.pre enc C.prog fn conds apart w args ∧ X w args) ∧ sizedMet enc C.prog fn (OpenSpec.ofChange s) apart w args) (s.post enc C.prog fn apart fresh handsOn again) := by
 refine returnsInHanded_of_calls own started noInit witness ?_
 intro w tape i _ hsh _ hok hpre hholds
 obtain ⟨_, _, _, fn2, hfn2, _, _, _, _, hval⟩ := hok
 obtain rfl : fn2 = fn := Option.some.inj (hfn2.symm.trans hfn)
 obtain ⟨⟨⟨ds, gs, before, hw, _⟩, hx⟩, hz⟩ := hpre
 refine (contract (w.forCall tape i) w.heap.size i.args ds gs before hval (DataW.Whole.of_heap (w' := w.forCall tape i) (by rfl) hw) (hz.weights hw) (hX _ _ _ (by rfl) hx) hsh).mono fun e W' ⟨v, he, hp⟩ => ?_
 subst he
 exact ChangeSpec.post_blind hp
theorem gP : Tryz.prog.globalNamed "internal/strconv.uint64pow10" = some 4 := by kernel_rfl
theorem tP : (Tryz.prog.globals[4]?).map (·.type) = some 250 := by kernel_rfl
theorem gE : Tryz.prog.globalNamed "strconv.ErrRange" = some 1 := by kernel_rfl
theorem tE : (Tryz.prog.globals[1]?).map (·.type) = some 28 := by kernel_rfl
def laidT : List (String × DataW Unit) := Rows.asmPrintsRow.laid
theorem laid_p : (Rows.laid_internal_strconv_uint64pow10 : DataW Unit) = Lib.tabData .u64 Lib.pow10Tab := by kernel_rfl
theorem starE : "*" ++ "errors.errorString" = "*errors.errorString" := by decide
theorem rowE (u : TypeId) (h : Tryz.prog.typeName? 3 u = some "*errors.errorString") : u = 291 :=
 typeName_ptr_named (nm := "errors.errorString") (by rw [starE]; kernel_rfl) (by kernel_rfl) (by decide) u (by rw [starE]; exact h)
theorem u293 : ∃ f, Tryz.prog.underlying 293 = some (.struct #[f]) ∧ f.type = 9 ∧ f.offset = 0 := by
 have h1 : (match Tryz.prog.underlying 293 with | some (.struct fs) => (fs.size, (fs[0]?).map fun f => (f.type, f.offset)) | _ => (0, none)) = (1, some (9, 0)) := by kernel_rfl
 split at h1
 ·next fs h =>
  obtain ⟨e1, e2⟩ := Prod.mk.inj h1
  obtain ⟨l⟩ := fs
  match l, e1, e2, h with
  | [f], _, e2, h => simp at e2; exact ⟨f, h, e2.1, e2.2⟩
 ·simp at h1
theorem begun13 : (((begin Tryz.prog (fun _ _ => 0) default).world.heap[7]?).bind Obj.row?).isSome = true := by kernel_rfl
theorem lo13 {W : World} (h : W.ShapedOpen Tryz.prog) : 8 ≤ W.heap.size := by
 obtain ⟨⟨z, t⟩, hz⟩ := Option.isSome_iff_exists.1 begun13
 obtain ⟨cs, hc, _⟩ := h.1 7 z t (of_decide_eq_true (by kernel_rfl)) hz
 exact (Array.getElem?_eq_some_iff.1 hc).1
theorem gl_of {W : World} (h : laidMetH Tryz.prog laidT W) (hsh : W.ShapedOpen Tryz.prog) : Gl W := by
 rw [laidT, MakeChecks.laidMetH_plain _ _ _ (by kernel_rfl)] at h
 have h2 : laidMet Tryz.prog _ W := h.tail.tail
 rw [laid_p] at h2
 have htab : Lib.TabIs Tryz.prog W "internal/strconv.uint64pow10" .u64 Lib.pow10Tab := Lib.tabIs_of_head gP tP (n := 20) (e := 120) (by kernel_rfl) (by kernel_rfl) (by kernel_rfl) (by kernel_rfl) h2
 obtain ⟨f, hf, hft, hfo⟩ := u293
 obtain ⟨a, s, hv, _⟩ := laid_sentinel h.tail.tail.tail.tail gE tE (ms := Tryz.prog.methodsAt 28) (tp := 291) (te := 293) (by kernel_rfl) rowE (by kernel_rfl) hf hft hfo (by kernel_rfl) (by kernel_rfl) (by kernel_rfl)
 refine ⟨htab, cell_of_shapedOpen_int hsh (g := 0) (t := 3) (zero := #[.int .i64 0]) (of_decide_eq_true (by kernel_rfl)) (by kernel_rfl) rfl (by kernel_rfl) (by kernel_rfl) (by kernel_rfl), ⟨291, _, by simpa using World.var?_cell gE hv 0⟩, lo13 hsh⟩
theorem own : ownKnob Tryz.prog.godebug = none := by kernel_rfl
theorem laid_met (os : Os) (args : Array Value) : laidMetH Tryz.prog laidT ((World.laidAll Tryz.prog os laidT).forCall (fun _ _ => 0) ⟨#[], args, []⟩).memory := by
 rw [MakeChecks.laidMetH_plain _ _ _ (by kernel_rfl)]
 exact laidMet_laidAll _ (by kernel_rfl) (by kernel_rfl)
theorem gS : Tryz.prog.globalNamed "strconv.ErrSyntax" = some 5 := by kernel_rfl
theorem tS : (Tryz.prog.globals[5]?).map (·.type) = some 28 := by kernel_rfl
theorem gs_of {W : World} (h : laidMetH Tryz.prog laidT W) (hsh : W.ShapedOpen Tryz.prog) : Gs W := by
 have hg := gl_of h hsh
 rw [laidT, MakeChecks.laidMetH_plain _ _ _ (by kernel_rfl)] at h
 obtain ⟨f, hf, hft, hfo⟩ := u293
 obtain ⟨a0, a1, s0, s1, c0, c1, t0, t1, hv0, hv1, -, -, -, -, -, -, -, hb0, hb1⟩ := laid_sentinels2 h.tail.tail.tail.tail gE tE gS tS (ms := Tryz.prog.methodsAt 28) (tp := 291) (te := 293) (by kernel_rfl) rowE (by kernel_rfl) hf hft hfo (by kernel_rfl) (by kernel_rfl) (by kernel_rfl)
 exact ⟨hg, a0, a1, c0, c1, t0, t1, by simpa using World.var?_cell gE hv0 0, by simpa using World.var?_cell gS hv1 0, hb0, hb1⟩
end Go.Proofs.YtgoabnehdmdikaaGreatDoor

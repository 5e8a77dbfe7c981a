import Derived.Test.YtgoabnehdmdikaaGreatDoorTLg33
import Derived.Test.YtgoabnehdmdikaaGreatDoorTLg38
import Derived.Test.YtgoabnehdmdikaaGreatDoorTLg20
import Derived.Test.YtgoabnehdmdikaaGreatDoorTLg7
import Derived.Test.YtgoabnehdmdikaaGreatDoorTLg11
import Derived.Test.YtgoabnehdmdikaaGreatDoorTLg8
import Derived.Test.YtgoabnehdmdikaaGreatDoorTLg21
import Derived.Test.YtgoabnehdmdikaaGreatDoorTLg19
import Derived.Test.YtgoabnehdmdikaaGreatDoorTLg36
import Derived.Test.YtgoabnehdmdikaaGreatDoorTLg26
import Derived.Test.YtgoabnehdmdikaaGreatDoorTLg35
import Derived.Test.YtgoabnehdmdikaaGreatDoorTLg32
set_option linter.unusedVariables false
set_option linter.unusedSimpArgs false
set_option maxRecDepth 100000
set_option maxHeartbeats 64000000
namespace Go.Proofs.YtgoabnehdmdikaaGreatDoor
open Go.RowKit
theorem Zx3 (s : ByteArray) (w : World) : (binOp .neq 9 (.string s) (.string s)).run Tryz.prog w = .ok (.bool false) w := by
 go_simp
theorem Ztb (v1 v2 : Value) (p : PG) (w : World) (B1 B2 : Nat) (h1 : PgIs w B1 v1 p) (h2 : PgIs w B2 v2 p) (ho : p.Ok) :
  Calls Tryz.prog 11 #[v1, v2] w fun e w' => e = .returned (.bool true) ∧ Kept nF w w' := by
 obtain ⟨dv1, fv1, rfl, hd1, _, hf1⟩ := h1
 obtain ⟨dv2, fv2, rfl, hd2, _, hf2⟩ := h2
 obtain ⟨da1, dc1, rfl⟩ := hd1.shape
 obtain ⟨fa1, fc1, rfl⟩ := hf1.shape
 obtain ⟨da2, dc2, rfl⟩ := hd2.shape
 obtain ⟨fa2, fc2, rfl⟩ := hf2.shape
 have hlf := ho.len
 have HOF := Za ho.fns
 obtain ⟨mem, ds, fs⟩ := p
 simp only at hlf hf1 hf2 hd1 hd2 HOF ⊢
 obtain ⟨nf, hnf⟩ := nmd (fs.length)
 obtain ⟨nd, hnd⟩ := nmd (ds.length)
 rw [← hnf] at hlf hf1 hf2 ⊢
 rw [← hnd] at hd1 hd2 ⊢
 obtain ⟨W1, hW1⟩ := nmd ((w.alloc (.cells #[.int .i64 mem, .slice da1 nd dc1, .slice fa1 nf fc1] 26)).alloc (.cells #[.int .i64 mem, .slice da2 nd dc2, .slice fa2 nf fc2] 26))
 obtain ⟨k1, x1, x2⟩ := Zmr _ _ _ _ _ _ hW1
 have HK1 := Za k1
 have HX1 := Za x1
 have HX2 := Za x2
 have HF1 := Za (hf1.kept k1 (fun _ _ f => f))
 have HF2 := Za (hf2.kept k1 (fun _ _ f => f))
 have HNF := Za hnf
 have hcv1 := Zaf W1 (.slice da1 nd dc1) ds (hd1.kept k1 (fun _ _ f => f))
 have hcv2 := Zaf W1 (.slice da2 nd dc2) ds (hd2.kept k1 (fun _ _ f => f))
 generalize str ds = sd at *
 have hneq := Zx3 sd W1
 clear hf1 hf2 hd1 hd2 hnf hnd k1 x1 x2 ho
 go_enter Tryz.func11, Tryz.ntmps11
 go_upto_region 1 with fail
 rw [← hW1]
 clear hW1
 generalize w.heap.size + 1 = gb at *
 generalize w.heap.size = ga at *
 obtain ⟨a0, a1, a2, _⟩ := Zx HX1.out
 obtain ⟨b0, b1, b2, _⟩ := Zx HX2.out
 go_wp2_with fail
 clear a0 a1 a2 b0 b1 b2 hcv1 hcv2 hneq
 go_loopw [5] (fun iv wr => ∃ (i : Nat), iv = .int .i64 (i : Int) ∧ Hid (i ≤ nf) ∧ Hid (Kept nF W1 wr)) (fun iv _ => nf - (intOf iv).toNat)
 case atStart => exact ⟨0, rfl, Nat.zero_le _, Kept.refl _ _⟩
 case round =>
  obtain ⟨i, rfl, HI, HK⟩ := hrel
  obtain ⟨a0, a1, a2, _⟩ := Zx (Zc HK.out HX1.out id)
  have hnfB : (nf : Int) ≤ 10000000000000 := by omega
  by_cases hlt : i < nf
  ·have hltI : (i : Int) < (nf : Int) := by omega
   have hli : i < fs.length := by rw [← HNF.out]; exact hlt
   have hg1 := HF1.out.kept HK.out (fun _ _ f => f)
   obtain ⟨g1, o1, f, e1, -, hfi, hfa1⟩ := hg1.at (i := i) hli
   obtain ⟨g2, o2, f', e2, -, hfi', hfa2⟩ := (HF2.out.kept HK.out (fun _ _ f => f)).at (i := i) hli
   rw [hfi] at hfi'
   cases hfi'
   subst e1
   subst e2
   obtain ⟨ca1, cc1, r0, r1, r2, r3, hri1, -⟩ := Zbr hfa1
   obtain ⟨ca2, cc2, q0, q1, q2, q3, hri2, -⟩ := Zbr hfa2
   have hfok := HOF.out f (List.mem_of_getElem? hfi)
   have HCL : Hid (f.code.length ≤ 9223372036854775807) := by have := hfok.len; show _ ≤ _; omega
   obtain ⟨fa, fl, fr, code⟩ := f
   simp only at r0 r1 r2 r3 q0 q1 q2 q3 hri1 hri2 HCL
   obtain ⟨nc, hnc⟩ := nmd (code.length)
   rw [← hnc] at r3 q3 hri1 hri2 HCL
   have hk5 : Kept nF wr (wr.alloc (.cells #[.int .i64 fa, .int .i64 fl, .int .i64 fr, .slice ca1 nc cc1] 78)) := (Kept.refl _ _).alloc _
   have HY := Za (heap_alloc_new wr (.cells #[.int .i64 fa, .int .i64 fl, .int .i64 fr, .slice ca1 nc cc1] 78))
   have HK5 := Za (HK.out.trans hk5)
   have HQ := Za (And.intro q0 (And.intro q1 (And.intro q2 q3)))
   have HR1 := Za hri1
   have HR2 := Za hri2
   have HKY := Za hk5
   have HNC := Za hnc
   clear hg1 hfi hfa1 hfa2 hri1 hri2 hfok hli hk5 q0 q1 q2 q3 hnc
   go_upto_region 7 with fail
   clear r0 r1 r2 r3 a0 a1 a2
   have HQ5 : Hid ((wr.alloc (.cells #[.int .i64 fa, .int .i64 fl, .int .i64 fr, .slice ca1 nc cc1] 78)).cell? ⟨g2, o2 + i * 4, none⟩ = some (.int .i64 fa) ∧ (wr.alloc (.cells #[.int .i64 fa, .int .i64 fl, .int .i64 fr, .slice ca1 nc cc1] 78)).cell? ⟨g2, o2 + i * 4 + 1, none⟩ = some (.int .i64 fl) ∧ (wr.alloc (.cells #[.int .i64 fa, .int .i64 fl, .int .i64 fr, .slice ca1 nc cc1] 78)).cell? ⟨g2, o2 + i * 4 + 2, none⟩ = some (.int .i64 fr) ∧ (wr.alloc (.cells #[.int .i64 fa, .int .i64 fl, .int .i64 fr, .slice ca1 nc cc1] 78)).cell? ⟨g2, o2 + i * 4 + 3, none⟩ = some (.slice ca2 nc cc2)) :=
    ⟨HKY.out.cell HQ.out.1 id, HKY.out.cell HQ.out.2.1 id, HKY.out.cell HQ.out.2.2.1 id, HKY.out.cell HQ.out.2.2.2 id⟩
   generalize wr.alloc (.cells #[.int .i64 fa, .int .i64 fl, .int .i64 fr, .slice ca1 nc cc1] 78) = w5 at *
   generalize wr.heap.size = gy at *
   obtain ⟨b0, b1, b2, _⟩ := Zx (Zc HK5.out HX2.out id)
   obtain ⟨r0, r1, r2, r3⟩ := HQ5.out
   have hk6 : Kept nF w5 (w5.alloc (.cells #[.int .i64 fa, .int .i64 fl, .int .i64 fr, .slice ca2 nc cc2] 78)) := (Kept.refl _ _).alloc _
   have HZ := Za (heap_alloc_new w5 (.cells #[.int .i64 fa, .int .i64 fl, .int .i64 fr, .slice ca2 nc cc2] 78))
   have HY6 := Za (Zc hk6 HY.out id)
   have HK6 := Za (HK5.out.trans hk6)
   have HKR := Za (HKY.out.trans hk6)
   clear hk6 HY HK5 HQ5 HKY HQ
   go_upto_region 8 with fail
   clear r0 r1 r2 r3 b0 b1 b2
   generalize w5.alloc (.cells #[.int .i64 fa, .int .i64 fl, .int .i64 fr, .slice ca2 nc cc2] 78) = w6 at *
   generalize w5.heap.size = gz at *
   obtain ⟨y0, y1, y2, y3, _⟩ := Yk HY6.out
   obtain ⟨z0, z1, z2, z3, _⟩ := Yk HZ.out
   have hsc := Zkn (.slice ca1 nc cc1) (.slice ca2 nc cc2) code code w6 (HR1.out.kept HKR.out (fun _ _ f => f)) (HR2.out.kept HKR.out (fun _ _ f => f)) (by rw [← HNC.out]; exact HCL.out) (by rw [← HNC.out]; exact HCL.out)
   rw [Zfb] at hsc
   have HSC := Za hsc
   clear hsc HR1 HR2 HNC HCL
   go_wp2_with fail
   refine HSC.out.mono ?_
   rintro e w7 ⟨rfl, nq, hw7⟩
   have HK7 : Hid (Kept nF W1 w7) := by
    show Kept _ _ _
    rw [hw7]
    exact Yf HK6.out nq
   clear hw7 HSC HK6 HY6 HZ y0 y1 y2 y3 z0 z1 z2 z3 HKR
   go_wp2
   go_roundw
   case rel => exact ⟨i + 1, by go_num, hlt, HK7⟩
   case measure => simp [intOf]; omega
  ·have hltI : ¬ (i : Int) < (nf : Int) := by omega
   go_wp2
   go_ret
   exact ⟨rfl, HK1.out.trans HK.out⟩
theorem Zse : ∃ R, Zb4 Zsp.data.toList = .inr R ∧ pgG R = p1 := by
 refine ⟨⟨0, false, [], [⟨⟨#[109, 97, 105, 110]⟩, 0, 0, 1, [], [⟨18, 0⟩]⟩], []⟩, ?_, rfl⟩
 have e1 : Xp R0 1 (Zv Zsp.data.toList) = .inr ⟨0, false, [], [⟨⟨#[109, 97, 105, 110]⟩, 0, 0, 1, [], [⟨18, 0⟩]⟩], []⟩ := by kernel_rfl
 unfold Zb4
 rw [if_neg (by decide), e1]
 simp only [Xg]
 exact if_pos Zsq
def pn (i : Int) : Pf := ⟨1, ⟨#[]⟩, i, false⟩
def pc : Pf := ⟨3, ⟨#[]⟩, 0, false⟩
abbrev Zsf : ByteArray := ⟨#[109, 101, 109, 111, 114, 121, 32, 48, 10, 102, 117, 110, 99, 32, 102, 48, 32, 48, 32, 48, 32, 49, 10, 9, 114, 101, 116, 10]⟩
theorem Zhb : Zbz p1 = 0 ∧ Zda p1 = Zsf := by
 constructor <;> kernel_rfl
theorem Ztc (w : World) : (binOp .eql 28 .nilIface .nilIface).run Tryz.prog w = .ok (.bool true) w := by kernel_rfl
theorem Ztd (w : World) : (binOp .eql 9 (.string Zsf) (.string Zsf)).run Tryz.prog w = .ok (.bool true) w := by kernel_rfl
theorem Zps {w : World} {B : Nat} {v : Value} {p : PG} (h : PgIs w B v p) : ∃ pm pda pdn pdc pfa pfn pfc, v = .agg #[.int .i64 pm, .slice pda pdn pdc, .slice pfa pfn pfc] := by
 obtain ⟨dv, fv, rfl, hd, _, hf⟩ := h
 obtain ⟨da, dc, rfl⟩ := hd.shape
 obtain ⟨fa, fc, rfl⟩ := hf.shape
 exact ⟨_, _, _, _, _, _, _, rfl⟩
theorem Zmk (w : World) (B : Nat) (fv : Value) (hp : Pg1 w B fv) : PgIs w w.heap.size (.agg #[.int .i64 0, .slice none 0 0, fv]) p1 := by
 obtain ⟨cv, hf, ho⟩ := hp
 obtain ⟨gf, cf, rfl⟩ := Zhd hf (by decide)
 obtain ⟨gc, cc, rfl⟩ := Zhd ho (by decide)
 refine ⟨_, _, rfl, .inl ⟨rfl, _, _, rfl⟩, (fun q hq => by cases hq), .inr ⟨gf, 0, cf, rfl, (hf.lt gf rfl).2, fun i f hi => ?_⟩⟩
 have hi0 : i = 0 := by
  have := (List.getElem?_eq_some_iff.1 hi).1
  simp [p1] at this
  exact this
 subst hi0
 simp [p1] at hi
 subst hi
 refine ⟨_, fun j v hv => ?_, .inr ⟨gc, 0, cc, rfl, fun i y hy => ?_⟩, fun q hq _ => (ho.lt q hq).2⟩
 ·have := hf.cells (g := gf) rfl j v hv
  rw [Addr.add_lit, Nat.zero_add] at this
  simpa using this
 ·have hi0 : i = 0 := by
   have := (List.getElem?_eq_some_iff.1 hy).1
   simp at this
   exact this
  subst hi0
  simp at hy
  subst hy
  intro j v hv
  have := ho.cells (g := gc) rfl j v hv
  rw [Addr.add_lit, Nat.zero_add] at this
  rw [show 0 + 0 * 2 + j = j by omega]
  exact this
theorem Zfu (w : World) (hG : Gs w) : Calls Tryz.prog 7 #[] w fun e w' => e = .returned (.bool true) ∧ Kept nF w w' := by
 have HP := Za (Zop Zsp (by decide) w hG)
 have HG := Za hG.gl
 clear hG
 go_enter Tryz.func7, Tryz.ntmps7
 go_wp2_with fail
 refine HP.out.mono ?_
 rintro e w1 ⟨hk1, hpar⟩
 obtain ⟨R0, hr0, hg0⟩ := Zse
 have hpar2 : ∃ v, e = .returned (.tuple #[v, .nilIface]) ∧ PgIs w1 w1.heap.size v p1 := by
  rcases hpar with ⟨ln, er, g, ho, _⟩ | ⟨R', v, ho, -, -, -, he, hp⟩
  ·rw [hr0] at ho
   cases ho
  ·rw [hr0] at ho
   cases ho
   rw [hg0] at hp
   exact ⟨v, he, hp⟩
 clear hpar hr0 hg0 HP
 obtain ⟨v, rfl, hpg⟩ := hpar2
 obtain ⟨pm, pda, pdn, pdc, pfa, pfn, pfc, rfl⟩ := Zps hpg
 have hka : Kept nF w1 (w1.alloc (.cells #[.int .i64 pm, .slice pda pdn pdc, .slice pfa pfn pfc] 26)) := (Kept.refl _ _).alloc _
 have HX := Za (heap_alloc_new w1 (.cells #[.int .i64 pm, .slice pda pdn pdc, .slice pfa pfn pfc] 26))
 have HPG := Za (hpg.kept hka (fun _ _ f => f))
 have HK := Za (hk1.trans hka)
 clear hka hk1 hpg
 go_upto_region 2 with fail
 generalize w1.alloc (.cells #[.int .i64 pm, .slice pda pdn pdc, .slice pfa pfn pfc] 26) = w2 at *
 generalize w1.heap.size = gp at *
 go_wp2_with fail
 refine (Zhw w2).mono ?_
 rintro e w3 ⟨fa3, fc3, rfl, hpg3, hk3⟩
 have HPR := Za (Ziw _ p1 _ w3 (HG.out.same (HK.out.trans hk3)) (Zmk _ _ _ hpg3) (Nat.le_refl _) Znv)
 rw [Zhb.1, Zhb.2] at HPR
 have HX3 := Za (Zc hk3 HX.out id)
 have HPG3 := Za (HPG.out.kept hk3 (fun _ _ f => f))
 have HK3 := Za (HK.out.trans hk3)
 clear hpg3 hk3 HX HPG HK
 go_wp2_with fail
 refine HPR.out.mono ?_
 rintro e w4 ⟨rfl, hk4⟩
 have HX4 := Za (Zc hk4 HX3.out id)
 have HPG4 := Za (HPG3.out.kept hk4 (fun _ _ f => f))
 have HK4 := Za (HK3.out.trans hk4)
 clear hk4 HPR HX3 HPG3 HK3
 go_upto_region 3 with fail
 have hKwd : Kept nF w4 w4.drew := (Kept.refl _ _).drew
 have HSM : Hid (∀ w', Kept nF w4 w' → w'.cell? ⟨gp, 0, none⟩ = some (.int .i64 pm) ∧ w'.cell? ⟨gp, 1, none⟩ = some (.slice pda pdn pdc) ∧ w'.cell? ⟨gp, 2, none⟩ = some (.slice pfa pfn pfc)) := fun w' hw =>
  ⟨hw.cell (Zb _ _ 0 _ _ _ HX4.out) id, hw.cell (Zb _ _ 1 _ _ _ HX4.out) id, hw.cell (Zb _ _ 2 _ _ _ HX4.out) id⟩
 refine wp_region_held_drew (S := fun w' => Kept nF w4 w') (by kernel_rfl) ((Kept.refl _ _).drew) (fun qh => ?_)
 generalize w4.drew = wd at *
 have HO := Za (Zhw wd)
 iterate 8
  refine tkn (v := ?_) 0 rfl ?_ ?_; rotate_left
  ·intro w hSw; obtain ⟨s0, s1, s2⟩ := HSM.out w hSw; have s3 := Ztc w; have s4 := Ztd w; go_simp; try with_reducible rfl
  try simp only [Act.put, tdy]
 refine rdy 8 rfl (fun K hK => ?_)
 go_simp
 refine HO.out.mono ?_
 rintro e w5 ⟨fa5, fc5, rfl, hpg5, hk5⟩
 have HSA := Za (Ztb _ _ p1 w5 _ _ ((HPG4.out.kept hKwd (fun _ _ f => f)).kept hk5 (fun _ _ f => f)) (Zmk _ _ _ hpg5) Znv)
 have HK5 := Za (hKwd.trans hk5)
 refine hK.out _ _ (hKwd.trans hk5) (fun qh => ?_)
 clear hK K hpg5 HO
 try simp only [Act.put, tdy]
 refine rdy 9 rfl (fun K hK => ?_)
 go_simp
 refine HSA.out.mono ?_
 rintro e w6 ⟨rfl, hk6⟩
 have HK6 := Za (HK4.out.trans (HK5.out.trans hk6))
 refine hK.out _ _ (HK5.out.trans hk6) (fun qh => ?_)
 clear hK K HSA
 try simp only [Act.put, tdy]
 iterate 5
  refine tkn (v := ?_) 10 rfl ?_ ?_; rotate_left
  ·intro w hSw; obtain ⟨s0, s1, s2⟩ := HSM.out w hSw; have s3 := Ztc w; have s4 := Ztd w; go_simp; try with_reducible rfl
  try simp only [Act.put, tdy]
 refine rdy 15 rfl (fun K hK => ?_)
 go_simp
 refine hK.out _ _ qh (fun qh => ?_)
 clear hK K
 try simp only [Act.put, tdy]
 refine wpAnyH_done (by kernel_rfl) ?_ _
 clear qh hk6 hk5 hKwd HSM HPG4 HX4 HK4 HK5
 go_wp2
 go_ret
 exact ⟨rfl, HK6.out⟩
theorem Zwg (w : World) (g : Nat) : (Instr.typeAssert (.iface 52 (.pointer (some ⟨g, 0, none⟩))) 28 52 true).run Tryz.prog w = .ok (.tuple #[.pointer (some ⟨g, 0, none⟩), .bool true]) w := by kernel_rfl
theorem Zwh (w : World) (e : Int) : (Instr.typeAssert (.iface 41 (.int .i64 e)) 28 41 true).run Tryz.prog w = .ok (.tuple #[.int .i64 e, .bool true]) w := by kernel_rfl
def ErrIs (w : World) (ev : Value) (er ln : Int) : Prop := (ev = .nilIface ∧ er = 0 ∧ ln = 0) ∨ ∃ g, ev = .iface 52 (.pointer (some ⟨g, 0, none⟩)) ∧ er ≠ 0 ∧ w.heap[g]? = some (.cells #[.int .i64 ln, .iface 41 (.int .i64 er)] 54 (0, 0))
theorem ErrIs.same {w w' : World} {ev : Value} {er ln : Int} (h : ErrIs w ev er ln) (hk : Kept nF w w') : ErrIs w' ev er ln := by
 rcases h with h | ⟨g, h1, h2, h3⟩
 ·exact .inl h
 ·exact .inr ⟨g, h1, h2, Zc hk h3 id⟩
theorem Zsg (ev : Value) (er ln : Int) (w : World) (h : ErrIs w ev er ln) : Calls Tryz.prog 9 #[ev] w fun e w' => e = .returned (.tuple #[.int .i64 er, .int .i64 ln, .bool true]) ∧ Kept nF w w' := by
 rcases h with ⟨rfl, rfl, rfl⟩ | ⟨g, rfl, he, hg⟩
 ·go_enter Tryz.func9, Tryz.ntmps9
  go_wp2
  refine bodyPost_ret (results_tmp3 rfl _ _ _) rfl ?_
  exact ⟨rfl, Kept.refl _ _⟩
 ·have ht1 := Zwg w g
  have ht2 := Zwh w er
  have c0 := Zb _ _ 0 _ _ _ hg
  have c1 := Zb _ _ 1 _ _ _ hg
  have e0 : (er == 0) = false := by simpa using he
  have e1 : (er != 0) = true := by simpa using he
  have HG := Za hg
  clear hg he
  go_enter Tryz.func9, Tryz.ntmps9
  go_upto_region 7 with fail
  clear c0 c1 ht1 ht2
  have hkd : Kept nF w w.drew := (Kept.refl _ _).drew
  have hgd := Zc hkd HG.out id
  have HKD := Za hkd
  refine wp_region_held_drew (S := fun w' => w' = w.drew) (by kernel_rfl) rfl (fun qh => ?_)
  generalize w.drew = wd at *
  have c0 := Zb _ _ 0 _ _ _ hgd
  clear hgd hkd
  iterate 4
   refine tkn (v := ?_) 0 rfl ?_ ?_; rotate_left
   ·intro w hSw; go_simp; try with_reducible rfl
   try simp only [Act.put, tdy]
  iterate 1
   refine tkn (v := ?_) 4 rfl ?_ ?_; rotate_left
   ·intro w hSw; have hSw := hSw.symm; subst hSw; go_simp; try with_reducible rfl
   try simp only [Act.put, tdy]
  iterate 8
   refine tkn (v := ?_) 5 rfl ?_ ?_; rotate_left
   ·intro w hSw; go_simp; try with_reducible rfl
   try simp only [Act.put, tdy]
  refine wpAnyH_done (by kernel_rfl) ?_ _
  clear c0 qh
  go_wp2
  refine bodyPost_ret (results_tmp3 rfl _ _ _) rfl ?_
  exact ⟨rfl, HKD.out⟩
def pO : (Int × Int) ⊕ Rdr → PG
 | .inl _ => ⟨0, [], []⟩
 | .inr R => pgG R
def eO : (Int × Int) ⊕ Rdr → Int × Int
 | .inl (ln, er) => (er, ln)
 | .inr _ => (0, 0)
theorem Zkz {w : World} {B : Nat} {v : Value} {p : PG} (h : PgIs w B v p) : ∃ pm pda pdn pdc pfa pfn pfc, v = .agg #[.int .i64 pm, .slice pda pdn pdc, .slice pfa pfn pfc] := by
 obtain ⟨dv, fv, rfl, hd, _, hf⟩ := h
 obtain ⟨da, dc, rfl⟩ := hd.shape
 obtain ⟨fa, fc, rfl⟩ := hf.shape
 exact ⟨_, _, _, _, _, _, _, rfl⟩
theorem Zml (w : World) (B : Nat) : PgIs w B (.agg #[.int .i64 0, .slice none 0 0, .slice none 0 0]) ⟨0, [], []⟩ := ⟨_, _, rfl, .inl ⟨rfl, _, _, rfl⟩, (fun q hq => by cases hq), .inl ⟨rfl, _, _, rfl⟩⟩
theorem Znq : (⟨0, [], []⟩ : PG).Ok := ⟨by decide, ⟨fun x hx => absurd hx List.not_mem_nil, by decide⟩, fun f hf => absurd hf List.not_mem_nil, by decide⟩
def Zx4 (o : (Int × Int) ⊕ Rdr) (w : World) (e : Ending) (w' : World) : Prop :=
 Kept nF w w' ∧ (pO o).Ok ∧ ∃ pm pda pdn pdc pfa pfn pfc ev, e = .returned (.tuple #[.agg #[.int .i64 pm, .slice pda pdn pdc, .slice pfa pfn pfc], ev]) ∧ PgIs w' w'.heap.size (.agg #[.int .i64 pm, .slice pda pdn pdc, .slice pfa pfn pfc]) (pO o) ∧ ErrIs w' ev (eO o).1 (eO o).2
def Zx5 (o : (Int × Int) ⊕ Rdr) (w : World) (e : Ending) (w' : World) : Prop :=
 Kept nF w w' ∧ ∃ rm rda rdn rdc rfa rfn rfc, e = .returned (.tuple #[.agg #[.int .i64 rm, .slice rda rdn rdc, .slice rfa rfn rfc], .int .i64 (eO o).1, .int .i64 (eO o).2]) ∧ PgIs w' w'.heap.size (.agg #[.int .i64 rm, .slice rda rdn rdc, .slice rfa rfn rfc]) (pO o)
theorem Zwi {o : (Int × Int) ⊕ Rdr} {w w' : World} {e : Ending} (h : Zv0 o w e w') : Zx4 o w e w' := by
 obtain ⟨hk, ⟨ln, er, g, rfl, he, rfl, hg⟩ | ⟨R', v, rfl, hc, hn, ho, rfl, hp⟩⟩ := h
 ·exact ⟨hk, Znq, _, _, _, _, _, _, _, _, rfl, Zml _ _, .inr ⟨g, rfl, he, hg⟩⟩
 ·obtain ⟨pm, pda, pdn, pdc, pfa, pfn, pfc, rfl⟩ := Zkz hp
  exact ⟨hk, Zj3 hn ho, _, _, _, _, _, _, _, _, rfl, hp, .inl ⟨rfl, rfl, rfl⟩⟩
theorem Zwj {o : (Int × Int) ⊕ Rdr} {w w' : World} {e : Ending} (h : Zwb o w e w') : Zx5 o w e w' := by
 obtain ⟨hk, ⟨ln, er, rfl, he, rfl⟩ | ⟨R', v, rfl, rfl, hp⟩⟩ := h
 ·exact ⟨hk, _, _, _, _, _, _, _, rfl, Zml _ _⟩
 ·obtain ⟨pm, pda, pdn, pdc, pfa, pfn, pfc, rfl⟩ := Zkz hp
  exact ⟨hk, _, _, _, _, _, _, _, rfl, hp⟩
theorem Zgh (D : ByteArray) (hD : D.size ≤ 9223372036854775807) (w : World) (hG : Gs w) : Calls Tryz.prog 3 #[.string D] w fun e w' => e = .returned (.bool true) ∧ Kept nF w w' := by
 have HKN := Za (Zfu w hG)
 have HG := Za hG
 have HDS := Za hD
 clear hG hD
 go_enter Tryz.func3, Tryz.ntmps3
 go_wp2_with fail
 refine HKN.out.mono ?_
 rintro e w1 ⟨rfl, hk1⟩
 have HPA := Za (Zop D HDS.out w1 (HG.out.same hk1))
 have HK1 := Za hk1
 have HRE := Za (fun wx => Zx1 D HDS.out wx)
 clear hk1 HKN
 generalize Zb4 D.data.toList = O at *
 go_wp2_with fail
 refine HPA.out.mono ?_
 rintro e w2 hpar
 obtain ⟨hk2, hok, pm, pda, pdn, pdc, pfa, pfn, pfc, ev, rfl, hpg, her⟩ := Zwi hpar
 obtain ⟨er, hre⟩ := nmd ((eO O).1)
 obtain ⟨ln, hln⟩ := nmd ((eO O).2)
 rw [← hre, ← hln] at her
 have HRL : Hid (er = (eO O).1 ∧ ln = (eO O).2) := ⟨hre, hln⟩
 have HOK := Za hok
 have hka : Kept nF w2 (w2.alloc (.cells #[.int .i64 pm, .slice pda pdn pdc, .slice pfa pfn pfc] 26)) := (Kept.refl _ _).alloc _
 have HX := Za (heap_alloc_new w2 (.cells #[.int .i64 pm, .slice pda pdn pdc, .slice pfa pfn pfc] 26))
 have HPG := Za (hpg.kept hka (fun _ _ f => f))
 have HTO := Za (Zsg ev er ln _ (her.same hka))
 have HK2 := Za (HK1.out.trans (hk2.trans hka))
 clear hpar hk2 hok hpg her hre hln hka HPA HK1
 go_upto_region 4 with fail
 generalize w2.alloc (.cells #[.int .i64 pm, .slice pda pdn pdc, .slice pfa pfn pfc] 26) = w3 at *
 generalize w2.heap.size = gp at *
 go_wp2_with fail
 refine HTO.out.mono ?_
 rintro e w4 ⟨rfl, hk4⟩
 have HK4 := Za (HK2.out.trans hk4)
 have HX4 := Za (Zc hk4 HX.out id)
 have HPG4 := Za (HPG.out.kept hk4 (fun _ _ f => f))
 clear hk4 HTO HX HPG HK2
 go_wp2_with fail
 refine (HRE.out w4).mono ?_
 rintro e w5 href
 obtain ⟨hk5, rm, rda, rdn, rdc, rfa, rfn, rfc, rfl, hrg⟩ := Zwj href
 rw [← HRL.out.1, ← HRL.out.2]
 have hka : Kept nF w5 (w5.alloc (.cells #[.int .i64 rm, .slice rda rdn rdc, .slice rfa rfn rfc] 26)) := (Kept.refl _ _).alloc _
 have HY := Za (heap_alloc_new w5 (.cells #[.int .i64 rm, .slice rda rdn rdc, .slice rfa rfn rfc] 26))
 have HX5 := Za (Zc (hk5.trans hka) HX4.out id)
 have HSM := Za (Ztb _ _ (pO O) _ _ _ (HPG4.out.kept (hk5.trans hka) (fun _ _ f => f)) (hrg.kept hka (fun _ _ f => f)) HOK.out)
 have HK6 := Za (HK4.out.trans (hk5.trans hka))
 clear href hk5 hrg hka HRE HX4 HPG4 HK4 HRL HOK
 go_upto_region 6 with fail
 generalize w5.alloc (.cells #[.int .i64 rm, .slice rda rdn rdc, .slice rfa rfn rfc] 26) = w6 at *
 generalize w5.heap.size = gr at *
 obtain ⟨a0, a1, a2, _⟩ := Zx HX5.out
 obtain ⟨b0, b1, b2, _⟩ := Zx HY.out
 go_wp2_with fail
 refine HSM.out.mono ?_
 rintro e w7 ⟨rfl, hk7⟩
 have HK7 := Za (HK6.out.trans hk7)
 clear hk7 HSM a0 a1 a2 b0 b1 b2
 go_wp2
 go_ret
 exact ⟨rfl, HK7.out⟩
theorem Zk0 (v : Value) (p : PG) (w : World) (B : Nat) (hGs : Gs w) (h : PgIs w B v p) (hB : B ≤ w.heap.size) (ho : p.Ok) : Calls Tryz.prog 5 #[v] w fun e w' => e = .returned (.bool true) ∧ Kept nF w w' := by
 have hG := hGs.gl
 have hpg := h
 obtain ⟨dv, fv, rfl, hd, hdl, hf⟩ := h
 obtain ⟨dao, dc, rfl⟩ := hd.shape
 obtain ⟨fao, fc, rfl⟩ := hf.shape
 have HPG := Za hpg
 have HB := Za hB
 have HO := Za ho
 have HG := Za hG
 have HLV : Hid (∀ gd gl, Ze7 p gd gl = .agg #[.int .i64 p.mem, .slice (some ⟨gd, 0, none⟩) p.data.length (p.data.length + 67), .slice (some ⟨gl, 0, none⟩) p.fns.length (p.fns.length + 7)]) := fun _ _ => rfl
 have hka : Kept nF w (w.alloc (.cells #[.int .i64 p.mem, .slice dao p.data.length dc, .slice fao p.fns.length fc] 26)) := (Kept.refl _ _).alloc _
 have HX := Za (heap_alloc_new w (.cells #[.int .i64 p.mem, .slice dao p.data.length dc, .slice fao p.fns.length fc] 26))
 have HK := Za hka
 have HKN := Za (Zfu _ (hGs.same hka))
 clear hpg hd hdl hf hB ho hG hGs hka
 generalize hmem : p.mem = mem at *
 generalize hnd : p.data.length = nd at *
 generalize hnf : p.fns.length = nf at *
 have HNF := Za hnf
 clear hmem hnd hnf
 go_enter Tryz.func5, Tryz.ntmps5
 go_upto_region 1 with fail
 generalize w.alloc (.cells #[.int .i64 mem, .slice dao nd dc, .slice fao nf fc] 26) = wa at *
 generalize hgx : w.heap.size = gx at HX ⊢
 have HGX := Za hgx
 clear hgx
 go_wp2_with fail
 refine HKN.out.mono ?_
 rintro e w1 ⟨rfl, hk1⟩
 have HK1 := Za (HK.out.trans hk1)
 have HX1 := Za (Zc hk1 HX.out id)
 have HAL := Za (Zu3 _ p w1 B (HPG.out.kept HK1.out (fun _ _ f => f)) HO.out)
 clear hk1 HKN HX HK
 obtain ⟨x0, x1, x2, _⟩ := Zx HX1.out
 go_wp2_with fail
 refine HAL.out.mono ?_
 rintro e w2 ⟨n, rfl, hk2⟩
 have HK2 := Za (HK1.out.trans hk2)
 have HX2 := Za (Zc hk2 HX1.out id)
 clear hk2 HAL x0 x1 x2 HX1 HK1
 obtain ⟨x0, x1, x2, _⟩ := Zx HX2.out
 by_cases hn : n > 524288
 ·go_wp2
  go_ret
  exact ⟨rfl, HK2.out⟩
 have hnd2 : decide (n > 524288) = false := decide_eq_false hn
 have HLE := Za (Zwe _ p w2 B (HPG.out.kept HK2.out (fun _ _ f => f)) (Nat.le_trans HB.out HK2.out.size) HO.out)
 go_wp2_with fail
 refine HLE.out.mono ?_
 rintro e w3 ⟨gd, gl, cgs, rfl, hlp, hk3, hgd⟩
 rw [HLV.out]
 have hkb : Kept nF w3 (w3.alloc (.cells #[.int .i64 mem, .slice (some ⟨gd, 0, none⟩) nd (nd + 67), .slice (some ⟨gl, 0, none⟩) nf (nf + 7)] 26)) := (Kept.refl _ _).alloc _
 have HY4 := Za (heap_alloc_new w3 (.cells #[.int .i64 mem, .slice (some ⟨gd, 0, none⟩) nd (nd + 67), .slice (some ⟨gl, 0, none⟩) nf (nf + 7)] 26))
 have HX4 := Za (Zc (hk3.trans hkb) HX2.out id)
 have HK4 := Za (HK2.out.trans (hk3.trans hkb))
 have HLP4 := Za (hlp.kept hkb id (fun _ _ f => f))
 have HGD := Za hgd
 have HS2 := Za HK2.out.size
 clear hk3 hkb hlp hgd HLE x0 x1 x2 HX2 hn hnd2
 go_upto_region 6 with fail
 generalize w3.alloc (.cells #[.int .i64 mem, .slice (some ⟨gd, 0, none⟩) nd (nd + 67), .slice (some ⟨gl, 0, none⟩) nf (nf + 7)] 26) = w4 at *
 generalize w3.heap.size = gy at *
 obtain ⟨y0, y1, y2, _⟩ := Zx HY4.out
 have hpr := Ziw (Ze7 p gd gl) p w4.heap.size w4 (HG.out.same HK4.out) (HLP4.out.pg) (Nat.le_refl _) HO.out
 rw [HLV.out] at hpr
 have HPR := Za hpr
 clear hpr
 go_wp2_with fail
 refine HPR.out.mono ?_
 rintro e w5 ⟨rfl, hk5⟩
 have HK5 := Za (HK4.out.trans hk5)
 have HX5 := Za (Zc hk5 HX4.out id)
 have HY5 := Za (Zc hk5 HY4.out id)
 have HLP5 := Za (HLP4.out.kept hk5 id (fun _ _ f => f))
 have HPQ := Za (Znp _ p B w5 (HPG.out.kept HK5.out (fun _ _ f => f)) (Nat.le_trans HB.out HK5.out.size) HO.out)
 clear hk5 HPR y0 y1 y2 HX4 HY4 HLP4 HK4
 obtain ⟨x0, x1, x2, _⟩ := Zx HX5.out
 generalize Zda p = ps at *
 generalize Zbz p = pe at *
 go_wp2_with fail
 refine HPQ.out.mono ?_
 rintro e w6 ⟨rfl, hk6⟩
 have HK6 := Za (HK5.out.trans hk6)
 have HX6 := Za (Zc hk6 HX5.out id)
 have HY6 := Za (Zc hk6 HY5.out id)
 have hhe := Zwf gd gl cgs _ p w6 B (HLP5.out.kept hk6 id (fun _ _ f => f)) (HPG.out.kept HK6.out (fun _ _ f => f)) (by have h1 := HB.out; have h2 := HS2.out; have h3 := HGD.out; have h4 := HGX.out; omega) HO.out
 rw [HLV.out] at hhe
 have HHE := Za hhe
 clear hk6 HPQ x0 x1 x2 HX5 HY5 HK5 hhe
 have HDL := Za HLP5.out.dl
 clear HLP5
 obtain ⟨x0, x1, x2, _⟩ := Zx HX6.out
 obtain ⟨y0, y1, y2, _⟩ := Zx HY6.out
 have hes := eqS ps
 go_wp2_with fail
 refine HHE.out.mono ?_
 rintro e w7 ⟨rfl, hk7⟩
 have HKF : Hid (Kept nF w w7) := HK6.out.step hk7 (fun i hi e => by have h2 := HS2.out; have h3 := HGD.out; have h4 := HGX.out; have h5 := HDL.out; omega)
 clear hk7 HHE x0 x1 x2 y0 y1 y2 HX6 HY6
 go_wp2
 go_ret
 exact ⟨rfl, HKF.out⟩
theorem Ziy (x n : Int) (w : World) (h0 : -9223372036854775808 ≤ x) (h1 : x ≤ 9223372036854775807) (hn : 0 < n) (hn' : n ≤ 4611686018427387904) :
  Calls Tryz.prog 17 #[.int .i64 x, .int .i64 n] w fun e w' => e = .returned (.int .i64 (x % n)) ∧ w' = w := by
 have hz : (n == 0) = false := by simp; omega
 by_cases hx : 0 ≤ x
 ·have e := Int.tmod_eq_emod_of_nonneg (b := n) hx
  have HE := Za e
  clear e
  have l1 := Int.emod_nonneg x (show n ≠ 0 by omega)
  have l2 := Int.emod_lt_of_pos x hn
  go_enter Tryz.func17, Tryz.ntmps17
  go_wp2
  go_ret
  exact ⟨rfl, rfl⟩
 ·have e : x.tmod n = -((-x) % n) := by
   have h : x = -(-x) := by omega
   rw [h, Int.neg_tmod, Int.tmod_eq_emod_of_nonneg (by omega), Int.neg_neg]
  have l1 := Int.emod_nonneg (-x) (show n ≠ 0 by omega)
  have l2 := Int.emod_lt_of_pos (-x) hn
  have t1 : -n < x.tmod n := by omega
  have t2 : x.tmod n ≤ 0 := by omega
  have f : x % n = if x.tmod n < 0 then x.tmod n + n else x.tmod n := by
   rw [Int.emod_eq_tmod]
   by_cases hd : n ∣ x
   ·have z := Int.tmod_eq_zero_of_dvd hd
    rw [if_pos (.inr hd), if_neg (by omega)]
    omega
   ·have z : x.tmod n ≠ 0 := fun h => hd (Int.dvd_of_tmod_eq_zero h)
    rw [if_neg (by intro h; rcases h with h | h; exact hx h; exact hd h), if_pos (by omega)]
    omega
  have HF := Za f
  clear e l1 l2 f
  by_cases ht : x.tmod n < 0
  ·go_enter Tryz.func17, Tryz.ntmps17
   go_wp2
   go_ret
   refine ⟨?_, rfl⟩
   rw [HF.out, if_pos ht]
   rfl
  ·go_enter Tryz.func17, Tryz.ntmps17
   go_wp2
   go_ret
   refine ⟨?_, rfl⟩
   rw [HF.out, if_neg (by omega)]
   rfl
theorem Bm.pushB {w0 w1 wr : World} {g m c : Nat} {zs : List Value} (h : Bm w0 w1 wr g m c zs) (x : Value) (hx : x.oneCell' = true) (hl : m + 1 ≤ 140737488355328) :
  ∃ g' m' c' w', (Builtin.append_ #[23, 23] 23 #[.slice (some ⟨g, 0, none⟩) m c, .slice (some ⟨wr.heap.size, 0, none⟩) 1 1]).run Tryz.prog (wr.alloc (.cells #[x] 5)) = .ok (.slice (some ⟨g', 0, none⟩) m' c') w' ∧ Bm w0 w1 w' g' m' c' (zs ++ [x]) := by
 obtain ⟨i0, hi, hz0, hz1, hz2⟩ := info_parts Tryz.info5
 have ha : Kept nF wr (wr.alloc (.cells #[x] 5)) := (Kept.refl _ _).alloc _
 have hn : ∀ j u, [x][j]? = some u → (wr.alloc (.cells #[x] 5)).cell? ((⟨wr.heap.size, 0, none⟩ : Addr).add j) = some u := fun j u hj => by
  rw [Addr.add_lit, Nat.zero_add, Zb _ _ _ _ _ _ (heap_alloc_new wr _)]
  simpa using hj
 have h' := h.same ha
 generalize wr.alloc (.cells #[x] 5) = wa at *
 generalize wr.heap.size = gn at *
 clear h ha
 obtain ⟨cur, fz, hg, hcs, hfz, htk⟩ := h'.blk
 have hmc := h'.mc
 by_cases hroom : m + 1 ≤ c
 ·have hfr : ∀ j, j < c → wa.frozen? ⟨g, j, none⟩ = false := fun j hj => by
   simp only [World.frozen?, hg]
   rcases hfz with rfl | hfz
   ·simp
   ·simp; omega
  have hr := run_append_room_cells (P := Tryz.prog) (w := wa) 23 23 5 i0 Tryz.underlying23 hi g 0 m c ⟨gn, 0, none⟩ 1 1 [x] (by rw [hz1]; rfl) hn (by simp [hx]) hroom (fun j hj => by
   have hj0 : j < 1 := hj
   rw [hz1, Zb _ _ _ _ _ _ hg]
   simp only [Array.getElem?_eq_getElem (show 0 + m * 1 + j < cur.size by omega), Option.isSome_some]) (fun j hj => by
   have hj0 : j < 1 := hj
   rw [hz1]
   exact hfr _ (by omega))
  rw [hz1, show 0 + m * 1 = m by omega] at hr
  obtain ⟨cur', h1, h2, h3⟩ := Zdv g 5 fz [x] m wa cur hg (by simp; omega)
  have hk1 := Zfd g [x] m wa
  refine ⟨g, _, c, _, hr, ⟨h'.lo, ⟨cur', fz, h1, by omega, hfz, by rw [show m + 1 = m + [x].length from rfl, h3, htk]⟩, by rw [List.length_append, ← h'.len]; rfl, hroom, h'.kept.step hk1 (fun i hi e => by have := h'.lo; omega), h'.oth.trans (fun k o hk' _ hn => Zc hk1 hk' (fun e => ?_))⟩⟩
  subst e
  rw [hg] at hk'
  cases hk'
  exact hn _ _ rfl
 ·have holds : ∀ j u, zs[j]? = some u → wa.cell? ((⟨g, 0, none⟩ : Addr).add j) = some u := fun j u hu => by
   have hj : j < m := by have := (List.getElem?_eq_some_iff.1 hu).1; have := h'.len; omega
   rw [Addr.add_lit, Nat.zero_add, Zb _ _ _ _ _ _ hg, ← hu, ← htk, List.getElem?_take_of_lt hj]
   simp
  have hr := run_append_grow (P := Tryz.prog) (w := wa) 23 23 5 i0 _ Tryz.underlying23 hi hz0 ⟨g, 0, none⟩ m c zs (by rw [hz1]; have := h'.len; omega) holds ⟨gn, 0, none⟩ 1 1 [x] (by rw [hz1]; rfl) hn (by omega) (by omega) (by rw [hz2]; exact growslice_fits (by omega) (by omega))
  have hge := grownCap_ge wa (m + 1) c 5
  have hk1 : Kept nF wa (wa.drew.alloc (.cells (zs.toArray ++ [x].toArray ++ Builtin.zeroCells (Value.int .u8 0).cells (grownCap wa (m + 1) c 5 - (m + 1))) 5)) := (Kept.refl _ _).drew.alloc _
  refine ⟨_, _, _, _, hr, ⟨h'.kept.size, ⟨_, (0, 0), heap_alloc_new wa.drew _, ?_, .inl rfl, ?_⟩, by rw [List.length_append, ← h'.len]; rfl, hge, h'.kept.trans hk1, h'.oth.trans (Zab hk1)⟩⟩
  ·have hz1 : (Value.int IntKind.u8 0).cells.size = 1 := rfl
   have := h'.len
   simp only [Array.size_append, List.size_toArray, size_zeroCells, hz1, List.length_cons, List.length_nil]
   omega
  ·have e : m + 1 = (zs ++ [x]).length := by rw [List.length_append, ← h'.len]; rfl
   simp only [Array.toList_append, List.append_assoc]
   rw [← List.append_assoc, e]
   exact List.take_left
theorem Zpt : ∀ f ∈ p1.fns, f.Ok := by
 intro f hf
 rw [List.mem_singleton.1 (show f ∈ [_] from hf)]
 exact ⟨by decide, by decide, by decide, fun y hy => by rw [List.mem_singleton.1 (show y ∈ [_] from hy)]; exact ⟨by decide, by decide⟩, by decide⟩
def Zwk : Value → Nat
 | .slice _ n _ => n
 | _ => 0
theorem Zwl (w : World) (B n : Nat) (xs : List Int) (dv fv : Value) (hp : Pg1 w B fv) (hd : IsB w dv xs) (hdb : ∀ q, dv.ownBlock = some q → q < w.heap.size) : PgIs w w.heap.size (.agg #[.int .i64 65536, dv, fv]) ⟨65536, xs, p1.fns⟩ := by
 obtain ⟨cv, hf, ho⟩ := hp
 obtain ⟨gf, cf, rfl⟩ := Zhd hf (by decide)
 obtain ⟨gc, cc, rfl⟩ := Zhd ho (by decide)
 refine ⟨_, _, rfl, hd, hdb, .inr ⟨gf, 0, cf, rfl, (hf.lt gf rfl).2, fun i f hi => ?_⟩⟩
 have hi0 : i = 0 := by
  have := (List.getElem?_eq_some_iff.1 hi).1
  simp [p1] at this
  exact this
 subst hi0
 simp [p1] at hi
 subst hi
 refine ⟨_, fun j v hv => ?_, .inr ⟨gc, 0, cc, rfl, fun i y hy => ?_⟩, fun q hq _ => (ho.lt q hq).2⟩
 ·have := hf.cells (g := gf) rfl j v hv
  rw [Addr.add_lit, Nat.zero_add] at this
  simpa using this
 ·have hi0 : i = 0 := by
   have := (List.getElem?_eq_some_iff.1 hy).1
   simp at this
   exact this
  subst hi0
  simp at hy
  subst hy
  intro j v hv
  have := ho.cells (g := gc) rfl j v hv
  rw [Addr.add_lit, Nat.zero_add] at this
  rw [show 0 + 0 * 2 + j = j by omega]
  exact this
theorem Zpu (fill many : Int) (hf : -9223372036854775808 ≤ fill ∧ fill < 9223372036854775808) (hm : -9223372036854775808 ≤ many ∧ many < 9223372036854775808) (bh : ByteArray) (hb : bh.size ≤ 140737488351232) (w : World) (hG : Gs w) :
  Calls Tryz.prog 6 #[.int .i64 fill, .int .i64 many, .string bh] w fun e w' => e = .returned (.bool true) ∧ Kept nF w w' := by
 have HKN := Za (Zfu w hG)
 have HG := Za hG
 have HMB := Za hm
 have HRO := Za (fun wx => Ziy fill 40 wx hf.1 (by omega) (by decide) (by decide))
 clear hG hm hf
 go_enter Tryz.func6, Tryz.ntmps6
 go_wp2_with fail
 refine HKN.out.mono ?_
 rintro e w1 ⟨rfl, hk1⟩
 have HK1 := Za hk1
 clear hk1 HKN
 go_wp2_with fail
 refine (HRO.out w1).mono ?_
 rintro e w2 ⟨rfl, hw⟩
 have hw := hw.symm
 subst hw
 have q0 : 0 ≤ fill % 40 := Int.emod_nonneg _ (by decide)
 have q1 : fill % 40 < 40 := Int.emod_lt_of_pos _ (by decide)
 generalize fill % 40 = q at *
 clear HRO
 obtain ⟨c4, w4, hr4, hb4, hk4⟩ := Zpo w w1 HK1.out ⟨#[102, 117, 110, 99, 32, 109, 97, 105, 110, 32, 48, 32, 48, 32, 49, 10, 114, 101, 116, 10, 59]⟩
 have HB4 : Hid (∃ (m : Nat) (xs : List Int), (21 : Nat) = m ∧ Bm w w4 w4 w1.heap.size m c4 (Zo xs)) := by
  refine ⟨21, (⟨#[102, 117, 110, 99, 32, 109, 97, 105, 110, 32, 48, 32, 48, 32, 49, 10, 114, 101, 116, 10, 59]⟩ : ByteArray).data.toList.map (fun b => (b.toNat : Int)), rfl, ?_⟩
  exact hb4
 have hr4' : (convert 9 23 (.string ⟨#[102, 117, 110, 99, 32, 109, 97, 105, 110, 32, 48, 32, 48, 32, 49, 10, 114, 101, 116, 10, 59]⟩)).run Tryz.prog w1 = .ok (.slice (some ⟨w1.heap.size, 0, none⟩) 21 c4) w4 := hr4
 clear hr4 hb4 hk4
 go_wp2_with fail
 go_loopw [9] (fun bv wr => ∃ (g m c : Nat) (xs : List Int), bv = .slice (some ⟨g, 0, none⟩) m c ∧ Hid (m ≤ 65600) ∧ Hid (Bm w w4 wr g m c (Zo xs))) (fun bv _ => 65600 - Zwk bv)
 case atStart =>
  obtain ⟨m, xs, rfl, hbm⟩ := HB4.out
  exact ⟨_, _, _, xs, rfl, by show _ ≤ _; decide, hbm⟩
 case round =>
  clear HB4 hr4'
  obtain ⟨g, m, c, xs, rfl, HM, HB⟩ := hrel
  by_cases hlt : (m : Int) < 65516 + q
  ·obtain ⟨g', m', c', w', hr, hbm⟩ := HB.out.pushB (.int .u8 32) rfl (by have := HM.out; omega)
   have hm' := HB.out.step hbm
   have hm1 : m' = m + 1 := hm'
   have HR := Za hr
   have HB' : Hid (Bm w w4 w' g' m' c' (Zo (xs ++ [32]))) := by
    show Bm _ _ _ _ _ _ _
    unfold Zo at hbm ⊢
    rw [List.map_append]
    exact hbm
   have HM1 := Za hm1
   clear hr hbm hm' hm1 HB
   go_wp2_with (at_builtin; refine Zr rfl (.tmp 22) (.tmp 23) 23 23 rfl _ _ rfl rfl _ w' HR.out ?_)
   go_roundw
   case rel => exact ⟨_, _, _, _, rfl, by have := HM1.out; show _ ≤ _; omega, HB'⟩
   case measure => have := HM1.out; simp only [Zwk]; omega
  ·have hcv := Zaf wr _ _ HB.out.isB
   have HSZ : Hid ((str xs).size ≤ 65600) := by
    have h1 := HB.out.len
    have h2 := HM.out
    simp [Zo] at h1
    show _ ≤ _
    rw [Zbj]
    omega
   have HKW := Za HB.out.kept
   have HBB := HB
   generalize hD : str xs = D at *
   have HDD := Za hD
   clear hD HB
   go_wp2_with fail
   refine (Zgh D (by have := HSZ.out; omega) wr (HG.out.same HKW.out)).mono ?_
   rintro e w5 ⟨rfl, hk5⟩
   have HB5 := Za (HBB.out.same hk5)
   have HK5 := Za (HKW.out.trans hk5)
   have hcv5 := Zaf w5 _ _ HB5.out.isB
   rw [HDD.out] at hcv5
   have hsum : ¬ 9223372036854775807 < D.size + bh.size := by have := HSZ.out; omega
   have HPA2 := Za (Zgh (D ++ bh) (by rw [ByteArray.size_append]; omega) w5 (HG.out.same HK5.out))
   clear hk5 hcv HBB HKW HDD
   go_wp2_with fail
   refine HPA2.out.mono ?_
   rintro e w6 ⟨rfl, hk6⟩
   have HK6 := Za (HK5.out.trans hk6)
   have HON := Za (Zhw w6)
   clear hk6 HPA2 HB5 HK5 hcv5 hsum
   go_wp2_with fail
   refine HON.out.mono ?_
   rintro e w7 ⟨fa, fc, rfl, hpg, hk7⟩
   have hka : Kept nF w7 (w7.alloc (.cells #[.int .i64 0, .slice none 0 0, .slice fa 1 fc] 26)) := (Kept.refl _ _).alloc _
   have HX8 := Za (heap_alloc_new w7 (.cells #[.int .i64 0, .slice none 0 0, .slice fa 1 fc] 26))
   have HP8 := Za (hpg.same hka)
   have HK8 := Za (HK6.out.trans (hk7.trans hka))
   have HLO : Hid (w6.heap.size ≤ w7.heap.size ∧ w.heap.size ≤ w7.heap.size) := ⟨hk7.size, (HK6.out.trans hk7).size⟩
   clear hpg hk7 hka HON
   go_upto_region 11 with fail
   generalize w7.alloc (.cells #[.int .i64 0, .slice none 0 0, .slice fa 1 fc] 26) = w8 at *
   generalize w7.heap.size = gp at *
   obtain ⟨c0, c1, c2, f0, f1, f2⟩ := Zx HX8.out
   have hx9 := Zf _ _ 0 _ _ _ HX8.out (.int .i64 65536)
   have hk9 := Zg w8 gp 0 (.int .i64 65536)
   have HX9 : Hid ((w8.setCell ⟨gp, 0, none⟩ (.int .i64 65536)).heap[gp]? = some (.cells #[.int .i64 65536, .slice none 0 0, .slice fa 1 fc] 26 (0, 0))) := hx9
   have HP9 := Za (HP8.out.put HX8.out hk9)
   have HK9 := Za (HK8.out.step hk9 (fun q hq e => by have := HLO.out.2; omega))
   clear hx9 hk9
   go_upto_region 12 with fail
   clear c0 c1 c2 f0 f1 f2 HX8 HP8 HK8
   generalize w8.setCell ⟨gp, 0, none⟩ (.int .i64 65536) = w9 at *
   have HRO2 := Za (Ziy many 60 w9 HMB.out.1 (by have := HMB.out.2; omega) (by decide) (by decide))
   go_wp2_with fail
   refine HRO2.out.mono ?_
   rintro e w10 ⟨rfl, hw⟩
   have hw := hw.symm
   subst hw
   have z0 : 0 ≤ many % 60 := Int.emod_nonneg _ (by decide)
   have z1 : many % 60 < 60 := Int.emod_lt_of_pos _ (by decide)
   generalize many % 60 = z at *
   obtain ⟨zn, rfl⟩ := Int.eq_ofNat_of_zero_le z0
   have hmk := Zjn w9 (16300 + zn) (by omega)
   obtain ⟨l, hl⟩ := nmd (16300 + zn)
   rw [show (((16300 + zn : Nat)) : Int) = 16300 + (zn : Int) by omega, ← hl] at hmk
   have hka : Kept nF w9 (w9.alloc (.cells (zer l) 5)) := (Kept.refl _ _).alloc _
   have HZ := Za (heap_alloc_new w9 (.cells (zer l) 5))
   have HXA := Za (Zc hka HX9.out id)
   have HPA := Za (HP9.out.same hka)
   have HKA := Za (HK9.out.trans hka)
   have HLB : Hid (l ≤ 16360) := by show l ≤ _; omega
   have HGN : Hid (gp < w9.heap.size) := (Array.getElem?_eq_some_iff.1 HX9.out).1
   clear HRO2 hka
   have hzl : (16300 : Int) + (zn : Int) = (l : Int) := by omega
   have HZL := Za hzl
   clear hl hzl
   obtain ⟨c0, c1, c2, f0, f1, f2⟩ := Zx HXA.out
   have hxb := Zf _ _ 1 _ _ _ HXA.out (.slice (some ⟨w9.heap.size, 0, none⟩) l l)
   have hkb := Zg (w9.alloc (.cells (zer l) 5)) gp 1 (.slice (some ⟨w9.heap.size, 0, none⟩) l l)
   have HXB : Hid (((w9.alloc (.cells (zer l) 5)).setCell ⟨gp, 1, none⟩ (.slice (some ⟨w9.heap.size, 0, none⟩) l l)).heap[gp]? = some (.cells #[.int .i64 65536, .slice (some ⟨w9.heap.size, 0, none⟩) l l, .slice fa 1 fc] 26 (0, 0))) := hxb
   have HPB := Za (HPA.out.put HXA.out hkb)
   have HZB := Za (Zc hkb HZ.out (fun e => by have := HGN.out; omega))
   have HKB := Za (HKA.out.step hkb (fun q hq e => by have := HLO.out.2; omega))
   clear hxb hkb
   go_upto_region 13 with fail
   clear c0 c1 c2 f0 f1 f2 HXA HPA HZ HKA hmk HX9 HP9 HK9
   have HGN2 : Hid (w9.heap.size < ((w9.alloc (.cells (zer l) 5)).setCell ⟨gp, 1, none⟩ (.slice (some ⟨w9.heap.size, 0, none⟩) l l)).heap.size) := (Array.getElem?_eq_some_iff.1 HZB.out).1
   generalize (w9.alloc (.cells (zer l) 5)).setCell ⟨gp, 1, none⟩ (.slice (some ⟨w9.heap.size, 0, none⟩) l l) = wf at *
   generalize w9.heap.size = gd at *
   obtain ⟨c0, c1, c2, f0, f1, f2⟩ := Zx HXB.out
   have hpr := Zk0 (.agg #[.int .i64 65536, .slice (some ⟨gd, 0, none⟩) l l, .slice fa 1 fc]) ⟨65536, List.replicate l 0, p1.fns⟩ wf wf.heap.size (HG.out.same HKB.out)
    (Zwl wf _ 0 (List.replicate l 0) _ _ HPB.out (.inr ⟨gd, 0, l, by rw [List.length_replicate], fun i hi => by
     rw [List.length_replicate] at hi
     rw [Nat.zero_add, Zb _ _ _ _ _ _ HZB.out, Zvk l i hi, List.getD, List.getElem?_replicate, if_pos hi]
     rfl⟩) (fun q9 hq9 => by
     have h9 : gd = q9 := Option.some.inj hq9
     have := HGN2.out
     omega)) (Nat.le_refl _)
    ⟨⟨by show (-9223372036854775808 : Int) ≤ 65536; decide, by show (65536 : Int) < 9223372036854775808; decide⟩, ⟨fun x hx => by rw [(List.mem_replicate.1 hx).2]; decide, by rw [List.length_replicate]; have := HLB.out; omega⟩, Zpt, Znv.len⟩
   have HPR := Za hpr
   clear hpr
   go_wp2_with fail
   refine HPR.out.mono ?_
   rintro e wg ⟨rfl, hkg⟩
   have HKG := Za (HKB.out.trans hkg)
   clear hkg HPR c0 c1 c2 f0 f1 f2
   go_wp2
   go_ret
   exact ⟨rfl, HKG.out⟩
end Go.Proofs.YtgoabnehdmdikaaGreatDoor

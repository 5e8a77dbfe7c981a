import Derived.Test.YtpfmhibdmehlcaaGreatDoorTOx35
import Derived.Test.YtpfmhibdmehlcaaGreatDoorTOx21
import Derived.Test.YtpfmhibdmehlcaaGreatDoorTOx34
import Derived.Test.YtpfmhibdmehlcaaGreatDoorTOx31
import Derived.Test.YtpfmhibdmehlcaaGreatDoorTOx4
import Derived.Test.YtpfmhibdmehlcaaGreatDoorTOx2
import Derived.Deep.Strs
import Derived.Laws.IdiomStrings
import Derived.Test.YtpfmhibdmehlcaaGreatDoorTOx3
import Derived.Test.YtpfmhibdmehlcaaGreatDoorTOx16
import Derived.Test.YtpfmhibdmehlcaaGreatDoorTOx22
namespace Go.Proofs.YtpfmhibdmehlcaaGreatDoor
open Go.RowKit
set_option linter.unusedVariables false
set_option linter.unusedSimpArgs false
set_option maxRecDepth 100000
abbrev outN : ByteArray := ⟨#[109, 101, 109, 111, 114, 121, 32, 48, 10, 102, 117, 110, 99, 32, 102, 48, 32, 48, 32, 48, 32, 49, 10, 9, 114, 101, 116, 10]⟩
theorem p1_printed : printE p1 = 0 ∧ printS p1 = outN := by
 constructor <;> kernel_rfl
theorem eqErr (w : World) : (binOp .eql 32 .nilIface .nilIface).run Tryz.prog w = .ok (.bool true) w := by kernel_rfl
theorem eqOut (w : World) : (binOp .eql 9 (.string outN) (.string outN)).run Tryz.prog w = .ok (.bool true) w := by kernel_rfl
theorem pg_shapeK {w : World} {B : Nat} {v : Value} {p : PG} (h : PgIs w B v p) : ∃ pm pda pdn pdc pfa pfn pfc, v = .agg #[.int .i64 pm, .slice pda pdn pdc, .slice pfa pfn pfc] := by
 obtain ⟨dv, fv, rfl, hd, _, hf⟩ := h
 obtain ⟨da, dc, rfl⟩ := hd.shape
 obtain ⟨fa, fc, rfl⟩ := hf.shape
 exact ⟨_, _, _, _, _, _, _, rfl⟩
theorem pg_one0 (w : World) (B : Nat) (fv : Value) (hp : Pg1 w B fv) : PgIs w w.heap.size (.agg #[.int .i64 0, .slice none 0 0, fv]) p1 := by
 obtain ⟨cv, hf, ho⟩ := hp
 obtain ⟨gf, cf, rfl⟩ := own_at hf (by decide)
 obtain ⟨gc, cc, rfl⟩ := own_at ho (by decide)
 refine ⟨_, _, rfl, .inl ⟨rfl, _, _, rfl⟩, (fun q hq => by cases hq), .inr ⟨gf, 0, cf, rfl, (hf.lt gf rfl).2, fun i f hi => ?_⟩⟩
 have hi0 : i = 0 := by
  have := (List.getElem?_eq_some_iff.1 hi).1
  simp [p1] at this
  exact this
 subst hi0
 simp [p1] at hi
 subst hi
 refine ⟨_, fun j v hv => ?_, .inr ⟨gc, 0, cc, rfl, fun i y hy => ?_⟩, fun q hq _ => (ho.lt q hq).2⟩
 ·have := hf.cells (g := gf) rfl j v hv
  rw [Addr.add_lit, Nat.zero_add] at this
  simpa using this
 ·have hi0 : i = 0 := by
   have := (List.getElem?_eq_some_iff.1 hy).1
   simp at this
   exact this
  subst hi0
  simp at hy
  subst hy
  intro j v hv
  have := ho.cells (g := gc) rfl j v hv
  rw [Addr.add_lit, Nat.zero_add] at this
  rw [show 0 + 0 * 2 + j = j by omega]
  exact this
set_option maxHeartbeats 16000000 in
theorem known_all (w : World) (hG : Gs w) : Calls Tryz.prog 7 #[] w fun e w' => e = .returned (.bool true) ∧ Kept (fun _ => False) w w' := by
 have HP := hid_of (parseG srcB (by decide) w hG)
 have HG := hid_of hG.gl
 clear hG
 go_enter Tryz.func7, Tryz.ntmps7
 go_wp2_with fail
 refine HP.out.mono ?_
 rintro e w1 ⟨hk1, hpar⟩
 obtain ⟨R0, hr0, hg0⟩ := src_read
 have hpar2 : ∃ v, e = .returned (.tuple #[v, .nilIface]) ∧ PgIs w1 w1.heap.size v p1 := by
  rcases hpar with ⟨ln, er, g, ho, _⟩ | ⟨R', v, ho, -, -, -, he, hp⟩
  ·rw [hr0] at ho
   cases ho
  ·rw [hr0] at ho
   cases ho
   rw [hg0] at hp
   exact ⟨v, he, hp⟩
 clear hpar hr0 hg0 HP
 obtain ⟨v, rfl, hpg⟩ := hpar2
 obtain ⟨pm, pda, pdn, pdc, pfa, pfn, pfc, rfl⟩ := pg_shapeK hpg
 have hka : Kept (fun _ => False) w1 (w1.alloc (.cells #[.int .i64 pm, .slice pda pdn pdc, .slice pfa pfn pfc] 25)) := (Kept.refl _ _).alloc _
 have HX := hid_of (heap_alloc_new w1 (.cells #[.int .i64 pm, .slice pda pdn pdc, .slice pfa pfn pfc] 25))
 have HPG := hid_of (hpg.kept hka (fun _ _ f => f))
 have HK := hid_of (hk1.trans hka)
 clear hka hk1 hpg
 go_upto_region 2 with fail
 generalize w1.alloc (.cells #[.int .i64 pm, .slice pda pdn pdc, .slice pfa pfn pfc] 25) = w2 at *
 generalize w1.heap.size = gp at *
 go_wp2_with fail
 refine (one_any w2).mono ?_
 rintro e w3 ⟨fa3, fc3, rfl, hpg3, hk3⟩
 have HPR := hid_of (print_any _ p1 _ w3 (HG.out.same (HK.out.trans hk3)) (pg_one0 _ _ _ hpg3) (Nat.le_refl _) p1_ok)
 rw [p1_printed.1, p1_printed.2] at HPR
 have HX3 := hid_of (box_kept hk3 HX.out id)
 have HPG3 := hid_of (HPG.out.kept hk3 (fun _ _ f => f))
 have HK3 := hid_of (HK.out.trans hk3)
 clear hpg3 hk3 HX HPG HK
 go_wp2_with fail
 refine HPR.out.mono ?_
 rintro e w4 ⟨rfl, hk4⟩
 have HX4 := hid_of (box_kept hk4 HX3.out id)
 have HPG4 := hid_of (HPG3.out.kept hk4 (fun _ _ f => f))
 have HK4 := hid_of (HK3.out.trans hk4)
 clear hk4 HPR HX3 HPG3 HK3
 go_upto_region 3 with fail
 have hKwd : Kept (fun _ => False) w4 w4.drew := (Kept.refl _ _).drew
 have HSM : Hid (∀ w', Kept (fun _ => False) w4 w' → w'.cell? ⟨gp, 0, none⟩ = some (.int .i64 pm) ∧ w'.cell? ⟨gp, 1, none⟩ = some (.slice pda pdn pdc) ∧ w'.cell? ⟨gp, 2, none⟩ = some (.slice pfa pfn pfc)) := fun w' hw =>
  ⟨hw.cell (cell_block _ _ 0 _ _ _ HX4.out) id, hw.cell (cell_block _ _ 1 _ _ _ HX4.out) id, hw.cell (cell_block _ _ 2 _ _ _ HX4.out) id⟩
 refine wp_region_held_drew (S := fun w' => Kept (fun _ => False) w4 w') (by kernel_rfl) ((Kept.refl _ _).drew) (fun hHeld => ?_)
 generalize w4.drew = wd at *
 have HO := hid_of (one_any wd)
 iterate 8
  refine tkn (v := ?_) 0 rfl ?_ ?_; rotate_left 1
  ·intro w hSw; obtain ⟨s0, s1, s2⟩ := HSM.out w hSw; have s3 := eqErr w; have s4 := eqOut w; go_simp; try with_reducible rfl
  try simp only [Act.put, tdy]
 refine rdy 8 rfl (fun K hK => ?_)
 go_simp
 refine HO.out.mono ?_
 rintro e w5 ⟨fa5, fc5, rfl, hpg5, hk5⟩
 have HSA := hid_of (sameG _ _ p1 w5 _ _ ((HPG4.out.kept hKwd (fun _ _ f => f)).kept hk5 (fun _ _ f => f)) (pg_one0 _ _ _ hpg5) p1_ok)
 have HK5 := hid_of (hKwd.trans hk5)
 refine hK.out _ _ (hKwd.trans hk5) (fun hHeld => ?_)
 clear hK K hpg5 HO
 try simp only [Act.put, tdy]
 refine rdy 9 rfl (fun K hK => ?_)
 go_simp
 refine HSA.out.mono ?_
 rintro e w6 ⟨rfl, hk6⟩
 have HK6 := hid_of (HK4.out.trans (HK5.out.trans hk6))
 refine hK.out _ _ (HK5.out.trans hk6) (fun hHeld => ?_)
 clear hK K HSA
 try simp only [Act.put, tdy]
 iterate 5
  refine tkn (v := ?_) 10 rfl ?_ ?_; rotate_left 1
  ·intro w hSw; obtain ⟨s0, s1, s2⟩ := HSM.out w hSw; have s3 := eqErr w; have s4 := eqOut w; go_simp; try with_reducible rfl
  try simp only [Act.put, tdy]
 refine rdy 15 rfl (fun K hK => ?_)
 go_simp
 refine hK.out _ _ hHeld (fun hHeld => ?_)
 clear hK K
 try simp only [Act.put, tdy]
 refine wpAnyH_done (by kernel_rfl) ?_ _
 clear hHeld hk6 hk5 hKwd HSM HPG4 HX4 HK4 HK5
 go_wp2
 go_ret
 exact ⟨rfl, HK6.out⟩
theorem errI_small (y : IN) : errI y ≠ 2 := by
 unfold errI
 repeat' split
 all_goals decide
theorem firstBad_small : ∀ ys : List IN, firstBad ys ≠ 2
 | [] => by decide
 | y :: ys => by
  unfold firstBad
  split
  ·exact firstBad_small ys
  ·exact errI_small y
theorem firstF_small : ∀ fs : List FN, firstF fs ≠ 2
 | [] => by decide
 | f :: fs => by
  unfold firstF
  split
  ·exact firstF_small fs
  ·rcases badF_cases f with ⟨_, h⟩ | ⟨h, e⟩
   ·rw [h]; decide
   ·rw [e]
    unfold encE
    rw [if_neg (by omega)]
    exact firstBad_small _
theorem checkP_two (p : PG) : checkP p ≠ 2 := by
 unfold checkP
 split
 ·decide
 ·exact firstF_small _
theorem printE_cases (p : PG) : (checkP p = 0 ∧ printE p = 0) ∨ (checkP p = 0 ∧ printE p = 2) ∨ (checkP p ≠ 0 ∧ printE p = checkP p ∧ printE p ≠ 2 ∧ printE p ≠ 0) := by
 have h2 := checkP_two p
 unfold printE
 by_cases h : checkP p = 0
 ·rw [if_pos h]
  split
  ·exact .inr (.inl ⟨h, rfl⟩)
  ·exact .inl ⟨h, rfl⟩
 ·rw [if_neg h]
  exact .inr (.inr ⟨h, rfl, h2, h⟩)
theorem print_size (p : PG) (op : p.Ok) : (printS p).size ≤ 65536 := by
 by_cases h : printE p = 0
 ·obtain ⟨_, h2, h3⟩ := print_text h op.data.1
  rw [h3]
  show (flT (progT p)).toArray.size ≤ 65536
  simpa using h2
 ·unfold printS
  rw [if_neg h]
  decide
structure BkI (w0 w : World) (gp gq : Nat) (c1 c2 : Array Value) (p q : PG) : Prop where
 x1 : w.heap[gp]? = some (.cells c1 25 (0, 0))
 x2 : w.heap[gq]? = some (.cells c2 25 (0, 0))
 p1 : PgIs w gp (.agg c1) p
 p2 : PgIs w gp (.agg c2) q
 k : Kept (fun _ => False) w0 w
 lo : gp ≤ w.heap.size
theorem BkI.step {w0 w w' : World} {gp gq : Nat} {c1 c2 : Array Value} {p q : PG} (h : BkI w0 w gp gq c1 c2 p q) (hk : Kept (fun _ => False) w w') : BkI w0 w' gp gq c1 c2 p q :=
 ⟨box_kept hk h.x1 id, box_kept hk h.x2 id, h.p1.kept hk (fun _ _ f => f), h.p2.kept hk (fun _ _ f => f), h.k.trans hk, Nat.le_trans h.lo hk.size⟩
theorem nnNil (w : World) : (binOp .neq 32 .nilIface .nilIface).run Tryz.prog w = .ok (.bool false) w := by kernel_rfl
def PG.put (p : PG) (k : Nat) (f : FN) (i : Nat) (y : IN) : PG := ⟨p.mem, p.data, p.fns.set k ⟨f.a, f.l, f.r, f.code.set i y⟩⟩
theorem PG.put_len (p : PG) (k : Nat) (f : FN) (i : Nat) (y : IN) : (p.put k f i y).fns.length = p.fns.length := by unfold PG.put; simp
theorem PG.put_at {p : PG} {k : Nat} {f : FN} (h : p.fns[k]? = some f) (i : Nat) (y : IN) : (p.put k f i y).fns[k]? = some ⟨f.a, f.l, f.r, f.code.set i y⟩ := by
 unfold PG.put
 simp only []
 rw [List.getElem?_set_self (List.getElem?_eq_some_iff.1 h).1]
theorem PG.put_ok {p : PG} (h : p.Ok) {k : Nat} {f : FN} (hf : p.fns[k]? = some f) (i : Nat) (y : IN) (hy : y.Ok) : (p.put k f i y).Ok := by
 have hfo := h.fns f (List.mem_of_getElem? hf)
 refine ⟨h.mem, h.data, fun g hg => ?_, by rw [PG.put_len]; exact h.len⟩
 rcases List.mem_or_eq_of_mem_set hg with hg | rfl
 ·exact h.fns g hg
 ·refine ⟨hfo.a, hfo.l, hfo.r, fun z hz => ?_, by simp only [List.length_set]; exact hfo.len⟩
  rcases List.mem_or_eq_of_mem_set hz with hz | rfl
  ·exact hfo.code z hz
  ·exact hy
theorem LentI.set {w : World} {g : Nat} {ys : List IN} {j i : Nat} (h : LentI w g ys j) (hi : i < ys.length) (y : IN) : LentI (w.setCells g (i * 2) y.cells) g (ys.set i y) j := by
 have hth : w.there g (i * 2) y.cells.length := there_sub h.there (by show _ + 2 ≤ _; omega)
 refine ⟨by rw [List.length_set]; exact World.there_setCells h.there _ _ _, fun m z hm => ?_, fun t ht => ?_⟩
 ·by_cases e : m = i
  ·subst e
   rw [List.getElem?_set_self hi] at hm
   cases hm
   exact World.rangeAt_setCells_same _ _ _ _ hth
  ·rw [List.getElem?_set_ne (Ne.symm e)] at hm
   refine World.rangeAt_setCells_apart (h.ents m z hm) _ _ _ (.inr ?_)
   rcases Nat.lt_or_ge m i with h1 | h1
   ·exact .inl (by show m * 2 + 2 ≤ _; omega)
   ·exact .inr (by show i * 2 + 2 ≤ _; omega)
 ·rw [List.length_set]
  refine World.rangeAt_setCells_apart (h.marks t ht) _ _ _ (.inr (.inr ?_))
  show i * 2 + 2 ≤ _
  omega
theorem LentP.put {w : World} {gd gl : Nat} {cgs : List Nat} {p : PG} {k i cg : Nat} {f : FN} (h : LentP w gd gl cgs p (p.fns.length + 7)) (hf : p.fns[k]? = some f) (hi : i < f.code.length) (hc : cgs[k]? = some cg) (y : IN) :
  LentP (w.setCells cg (i * 2) y.cells) gd gl cgs (p.put k f i y) ((p.put k f i y).fns.length + 7) := by
 have hk := kept_setCells cg y.cells (i * 2) w
 have hcl := h.lo cg (List.mem_of_getElem? hc)
 have hdl := h.dl
 rw [PG.put_len]
 have hrow : ∀ (m : Nat) (F : FN), (p.put k f i y).fns[m]? = some F → (m = k ∧ F = ⟨f.a, f.l, f.r, f.code.set i y⟩) ∨ (m ≠ k ∧ p.fns[m]? = some F) := by
  intro m F hF
  by_cases e : m = k
  ·subst e
   rw [PG.put_at hf] at hF
   cases hF
   exact .inl ⟨rfl, rfl⟩
  ·unfold PG.put at hF
   simp only [] at hF
   rw [List.getElem?_set_ne (Ne.symm e)] at hF
   exact .inr ⟨e, hF⟩
 have hfn := h.fns.kept hk (show ¬ gl = cg by omega)
 refine ⟨h.dat.kept hk (show ¬ gd = cg by omega), hdl, ⟨?_, fun m F c hm hF hcm => ?_, fun m h0 h1 => ?_⟩, fun m F c hF hcm => ?_, by rw [PG.put_len]; exact h.len, h.up, h.lo⟩
 ·rw [PG.put_len]; exact hfn.there
 ·rcases hrow m F hF with ⟨rfl, rfl⟩ | ⟨hne, hF⟩
  ·have := hfn.ents m f c hm hf hcm
   unfold gcells FN.cells at this ⊢
   simp only [List.length_set]
   exact this
  ·exact hfn.ents m F c hm hF hcm
 ·rw [PG.put_len] at h0
  exact hfn.marks m h0 h1
 ·rcases hrow m F hF with ⟨rfl, rfl⟩ | ⟨hne, hF⟩
  ·rw [hc] at hcm
   cases hcm
   exact (h.code m f _ hf hc).set hi y
  ·refine (h.code m F c hF hcm).kept hk (fun e => hne ?_)
   have e' : c = cg := e
   subst e'
   have hnd : cgs.Nodup := h.up.imp (fun hlt => Nat.ne_of_lt hlt)
   have hm1 := (List.getElem?_eq_some_iff.1 hcm).1
   have hk1 := (List.getElem?_eq_some_iff.1 hc).1
   exact (List.getElem?_inj hm1 hnd).1 (hcm.trans hc.symm)
def ParN (p : PG) (w : World) (e : Ending) (w' : World) : Prop := Kept (fun _ => False) w w' ∧ ∃ (x : PO) (m : Int) (da : Option Addr) (dn dc : Nat) (fa : Option Addr) (fn fc : Nat), x.cells = [.int .i64 m, .slice da dn dc, .slice fa fn fc] ∧ e = .returned (.tuple #[.agg #[.int .i64 m, .slice da dn dc, .slice fa fn fc], .nilIface]) ∧ PgIs w' w'.heap.size (.agg #[.int .i64 m, .slice da dn dc, .slice fa fn fc]) p ∧ Apt w' [x] ∧ ∀ q, PBO [x] q → w.heap.size ≤ q
theorem checkP_fit {p : PG} (h : checkP p = 0) : badP p = false := by
 unfold checkP at h
 by_cases e : badP p = true
 ·rw [if_pos e] at h; cases h
 ·simpa using e
theorem parse_new (p : PG) (w : World) (hG : Gs w) (h : printE p = 0) (ho : p.Ok) : Calls Tryz.prog 10 #[.string (printS p)] w (ParN p w) := by
 have hs := print_size p ho
 refine (parseO (printS p) (by omega) w hG).mono ?_
 intro e w' hpar
 obtain ⟨R, h1, h2⟩ := print_back h ho ho.data.1
 rw [h1] at hpar
 obtain ⟨hk, ⟨ln, er, g, hh, _⟩ | ⟨R', v, hh, hck, hnu, hok, rfl, hpg, dv, fv, CV, rfl, hd, hf, hc⟩⟩ := hpar
 ·cases hh
 ·cases hh
  have hb := checkP_fit hck
  unfold badP at hb
  have hlen : (pgG R).fns.length = R.fs.length := by simp [pgG]
  have hdat : (pgG R).data = R.data := rfl
  rw [hlen, hdat] at hb
  simp only [decide_eq_false_iff_not] at hb
  have hfit : (PO.mk R dv fv CV).Fit := by
   refine ⟨by have := hc.len; simpa using this, ?_, ?_, ?_, fun f hf => ?_⟩
   ·show 1 ≤ R.fs.length; omega
   ·show R.fs.length ≤ 64; omega
   ·show R.data.length ≤ 4194304; omega
   ·have := hok.code f hf; omega
  obtain ⟨ha, hlo⟩ := apt_one hd hf hc hfit
  obtain ⟨da, dc, rfl⟩ := ownsRow_shape hd
  obtain ⟨fa, fc, rfl⟩ := ownsRow_shape hf
  rw [h2] at hpg
  exact ⟨hk, _, _, _, _, _, _, _, _, rfl, rfl, hpg, ha, hlo⟩
theorem last_code {p : PG} (h : checkP p = 0) : ∃ f, p.fns[p.fns.length - 1]? = some f ∧ 0 < f.code.length := by
 have hb := checkP_fit h
 unfold checkP at h
 rw [if_neg (by rw [hb]; decide)] at h
 unfold badP at hb
 simp only [decide_eq_false_iff_not] at hb
 have hl : p.fns.length - 1 < p.fns.length := by omega
 refine ⟨_, List.getElem?_eq_getElem hl, ?_⟩
 have h1 := firstF_zero _ h _ (List.getElem_mem hl)
 unfold errF at h1
 by_cases e : badF p.fns[p.fns.length - 1] = true
 ·rw [if_pos e] at h1; cases h1
 ·unfold badF at e
  simp only [decide_eq_true_eq] at e
  omega
end Go.Proofs.YtpfmhibdmehlcaaGreatDoor

import Derived.Test.YtpfmhibdmehlcaaGreatDoorTBa48
import Derived.Test.YtpfmhibdmehlcaaGreatDoorTBa41
import Derived.Test.YtpfmhibdmehlcaaGreatDoorTBa45
import Derived.Test.YtpfmhibdmehlcaaGreatDoorTBa43
import Derived.Test.YtpfmhibdmehlcaaGreatDoorTBa37
import Derived.Test.YtpfmhibdmehlcaaGreatDoorTBa47
namespace Go.Proofs.YtpfmhibdmehlcaaGreatDoor
open Go.RowKit
set_option linter.unusedVariables false
set_option linter.unusedSimpArgs false
set_option maxRecDepth 100000
abbrev outN : ByteArray := ⟨#[109, 101, 109, 111, 114, 121, 32, 48, 10, 102, 117, 110, 99, 32, 102, 48, 32, 48, 32, 48, 32, 49, 10, 9, 114, 101, 116, 10]⟩
theorem p1_printed : printE p1 = 0 ∧ printS p1 = outN := by
 constructor <;> kernel_rfl
theorem eqErr (w : World) : (binOp .eql 32 .nilIface .nilIface).run Tryz.prog w = .ok (.bool true) w := by kernel_rfl
theorem eqOut (w : World) : (binOp .eql 9 (.string outN) (.string outN)).run Tryz.prog w = .ok (.bool true) w := by kernel_rfl
theorem pg_shapeK {w : World} {B : Nat} {v : Value} {p : PG} (h : PgIs w B v p) : ∃ pm pda pdn pdc pfa pfn pfc, v = .agg #[.int .i64 pm, .slice pda pdn pdc, .slice pfa pfn pfc] := by
 obtain ⟨dv, fv, rfl, hd, _, hf⟩ := h
 obtain ⟨da, dc, rfl⟩ := hd.shape
 obtain ⟨fa, fc, rfl⟩ := hf.shape
 exact ⟨_, _, _, _, _, _, _, rfl⟩
theorem pg_one0 (w : World) (B : Nat) (fv : Value) (hp : Pg1 w B fv) : PgIs w w.heap.size (.agg #[.int .i64 0, .slice none 0 0, fv]) p1 := by
 obtain ⟨cv, hf, ho⟩ := hp
 obtain ⟨gf, cf, rfl⟩ := own_at hf (by decide)
 obtain ⟨gc, cc, rfl⟩ := own_at ho (by decide)
 refine ⟨_, _, rfl, .inl ⟨rfl, _, _, rfl⟩, (fun q hq => by cases hq), .inr ⟨gf, 0, cf, rfl, (hf.lt gf rfl).2, fun i f hi => ?_⟩⟩
 have hi0 : i = 0 := by
  have := (List.getElem?_eq_some_iff.1 hi).1
  simp [p1] at this
  exact this
 subst hi0
 simp [p1] at hi
 subst hi
 refine ⟨_, fun j v hv => ?_, .inr ⟨gc, 0, cc, rfl, fun i y hy => ?_⟩, fun q hq _ => (ho.lt q hq).2⟩
 ·have := hf.cells (g := gf) rfl j v hv
  rw [Addr.add_lit, Nat.zero_add] at this
  simpa using this
 ·have hi0 : i = 0 := by
   have := (List.getElem?_eq_some_iff.1 hy).1
   simp at this
   exact this
  subst hi0
  simp at hy
  subst hy
  intro j v hv
  have := ho.cells (g := gc) rfl j v hv
  rw [Addr.add_lit, Nat.zero_add] at this
  rw [show 0 + 0 * 2 + j = j by omega]
  exact this
set_option maxHeartbeats 16000000 in
theorem known_all (w : World) (hG : Gs w) : Calls Tryz.prog 7 #[] w fun e w' => e = .returned (.bool true) ∧ Kept (fun _ => False) w w' := by
 have HP := hid_of (parseG srcB (by decide) w hG)
 have HG := hid_of hG.gl
 clear hG
 go_enter Tryz.func7, Tryz.ntmps7
 go_wp2_with fail
 refine HP.out.mono ?_
 rintro e w1 ⟨hk1, hpar⟩
 obtain ⟨R0, hr0, hg0⟩ := src_read
 have hpar2 : ∃ v, e = .returned (.tuple #[v, .nilIface]) ∧ PgIs w1 w1.heap.size v p1 := by
  rcases hpar with ⟨ln, er, g, ho, _⟩ | ⟨R', v, ho, -, -, -, he, hp⟩
  ·rw [hr0] at ho
   cases ho
  ·rw [hr0] at ho
   cases ho
   rw [hg0] at hp
   exact ⟨v, he, hp⟩
 clear hpar hr0 hg0 HP
 obtain ⟨v, rfl, hpg⟩ := hpar2
 obtain ⟨pm, pda, pdn, pdc, pfa, pfn, pfc, rfl⟩ := pg_shapeK hpg
 have hka : Kept (fun _ => False) w1 (w1.alloc (.cells #[.int .i64 pm, .slice pda pdn pdc, .slice pfa pfn pfc] 25)) := (Kept.refl _ _).alloc _
 have HX := hid_of (heap_alloc_new w1 (.cells #[.int .i64 pm, .slice pda pdn pdc, .slice pfa pfn pfc] 25))
 have HPG := hid_of (hpg.kept hka (fun _ _ f => f))
 have HK := hid_of (hk1.trans hka)
 clear hka hk1 hpg
 go_upto_region 2 with fail
 generalize w1.alloc (.cells #[.int .i64 pm, .slice pda pdn pdc, .slice pfa pfn pfc] 25) = w2 at *
 generalize w1.heap.size = gp at *
 go_wp2_with fail
 refine (one_any w2).mono ?_
 rintro e w3 ⟨fa3, fc3, rfl, hpg3, hk3⟩
 have HPR := hid_of (print_any _ p1 _ w3 (HG.out.same (HK.out.trans hk3)) (pg_one0 _ _ _ hpg3) (Nat.le_refl _) p1_ok)
 rw [p1_printed.1, p1_printed.2] at HPR
 have HX3 := hid_of (box_kept hk3 HX.out id)
 have HPG3 := hid_of (HPG.out.kept hk3 (fun _ _ f => f))
 have HK3 := hid_of (HK.out.trans hk3)
 clear hpg3 hk3 HX HPG HK
 go_wp2_with fail
 refine HPR.out.mono ?_
 rintro e w4 ⟨rfl, hk4⟩
 have HX4 := hid_of (box_kept hk4 HX3.out id)
 have HPG4 := hid_of (HPG3.out.kept hk4 (fun _ _ f => f))
 have HK4 := hid_of (HK3.out.trans hk4)
 clear hk4 HPR HX3 HPG3 HK3
 go_upto_region 3 with fail
 have hKwd : Kept (fun _ => False) w4 w4.drew := (Kept.refl _ _).drew
 have HSM : Hid (∀ w', Kept (fun _ => False) w4 w' → w'.cell? ⟨gp, 0, none⟩ = some (.int .i64 pm) ∧ w'.cell? ⟨gp, 1, none⟩ = some (.slice pda pdn pdc) ∧ w'.cell? ⟨gp, 2, none⟩ = some (.slice pfa pfn pfc)) := fun w' hw =>
  ⟨hw.cell (cell_block _ _ 0 _ _ _ HX4.out) id, hw.cell (cell_block _ _ 1 _ _ _ HX4.out) id, hw.cell (cell_block _ _ 2 _ _ _ HX4.out) id⟩
 refine wp_region_held_drew (S := fun w' => Kept (fun _ => False) w4 w') (by kernel_rfl) ((Kept.refl _ _).drew) (fun hHeld => ?_)
 generalize w4.drew = wd at *
 have HO := hid_of (one_any wd)
 iterate 8
  refine tkn (v := ?_) 0 rfl ?_ ?_; rotate_left 1
  ·intro w hSw; obtain ⟨s0, s1, s2⟩ := HSM.out w hSw; have s3 := eqErr w; have s4 := eqOut w; go_simp; try with_reducible rfl
  try simp only [Act.put, tdy]
 refine rdy 8 rfl (fun K hK => ?_)
 go_simp
 refine HO.out.mono ?_
 rintro e w5 ⟨fa5, fc5, rfl, hpg5, hk5⟩
 have HSA := hid_of (sameG _ _ p1 w5 _ _ ((HPG4.out.kept hKwd (fun _ _ f => f)).kept hk5 (fun _ _ f => f)) (pg_one0 _ _ _ hpg5) p1_ok)
 have HK5 := hid_of (hKwd.trans hk5)
 refine hK.out _ _ (hKwd.trans hk5) (fun hHeld => ?_)
 clear hK K hpg5 HO
 try simp only [Act.put, tdy]
 refine rdy 9 rfl (fun K hK => ?_)
 go_simp
 refine HSA.out.mono ?_
 rintro e w6 ⟨rfl, hk6⟩
 have HK6 := hid_of (HK4.out.trans (HK5.out.trans hk6))
 refine hK.out _ _ (HK5.out.trans hk6) (fun hHeld => ?_)
 clear hK K HSA
 try simp only [Act.put, tdy]
 iterate 5
  refine tkn (v := ?_) 10 rfl ?_ ?_; rotate_left 1
  ·intro w hSw; obtain ⟨s0, s1, s2⟩ := HSM.out w hSw; have s3 := eqErr w; have s4 := eqOut w; go_simp; try with_reducible rfl
  try simp only [Act.put, tdy]
 refine rdy 15 rfl (fun K hK => ?_)
 go_simp
 refine hK.out _ _ hHeld (fun hHeld => ?_)
 clear hK K
 try simp only [Act.put, tdy]
 refine wpAnyH_done (by kernel_rfl) ?_ _
 clear hHeld hk6 hk5 hKwd HSM HPG4 HX4 HK4 HK5
 go_wp2
 go_ret
 exact ⟨rfl, HK6.out⟩
theorem pg_zeroT (w : World) (B : Nat) : PgIs w B (.agg #[.int .i64 0, .slice none 0 0, .slice none 0 0]) ⟨0, [], []⟩ := ⟨_, _, rfl, .inl ⟨rfl, _, _, rfl⟩, (fun q hq => by cases hq), .inl ⟨rfl, _, _, rfl⟩⟩
theorem pg_zeroT_ok : (⟨0, [], []⟩ : PG).Ok := ⟨by decide, ⟨fun x hx => absurd hx List.not_mem_nil, by decide⟩, fun f hf => absurd hf List.not_mem_nil, by decide⟩
theorem errI_small (y : IN) : errI y ≠ 2 := by
 unfold errI
 repeat' split
 all_goals decide
theorem firstBad_small : ∀ ys : List IN, firstBad ys ≠ 2
 | [] => by decide
 | y :: ys => by
  unfold firstBad
  split
  ·exact firstBad_small ys
  ·exact errI_small y
theorem firstF_small : ∀ fs : List FN, firstF fs ≠ 2
 | [] => by decide
 | f :: fs => by
  unfold firstF
  split
  ·exact firstF_small fs
  ·rcases badF_cases f with ⟨_, h⟩ | ⟨h, e⟩
   ·rw [h]; decide
   ·rw [e]
    unfold encE
    rw [if_neg (by omega)]
    exact firstBad_small _
theorem checkP_two (p : PG) : checkP p ≠ 2 := by
 unfold checkP
 split
 ·decide
 ·exact firstF_small _
theorem printE_cases (p : PG) : (checkP p = 0 ∧ printE p = 0) ∨ (checkP p = 0 ∧ printE p = 2) ∨ (checkP p ≠ 0 ∧ printE p = checkP p ∧ printE p ≠ 2 ∧ printE p ≠ 0) := by
 have h2 := checkP_two p
 unfold printE
 by_cases h : checkP p = 0
 ·rw [if_pos h]
  split
  ·exact .inr (.inl ⟨h, rfl⟩)
  ·exact .inl ⟨h, rfl⟩
 ·rw [if_neg h]
  exact .inr (.inr ⟨h, rfl, h2, h⟩)
theorem print_inj {p q : PG} (hp : printE p = 0) (hq : printE q = 0) (op : p.Ok) (oq : q.Ok) (h : printS p = printS q) : p = q := by
 obtain ⟨R1, r1, e1⟩ := print_back hp op op.data.1
 obtain ⟨R2, r2, e2⟩ := print_back hq oq oq.data.1
 rw [h, r2] at r1
 cases r1
 rw [← e1, e2]
theorem print_size (p : PG) (op : p.Ok) : (printS p).size ≤ 65536 := by
 by_cases h : printE p = 0
 ·obtain ⟨_, h2, h3⟩ := print_text h op.data.1
  rw [h3]
  show (flT (progT p)).toArray.size ≤ 65536
  simpa using h2
 ·unfold printS
  rw [if_neg h]
  decide
end Go.Proofs.YtpfmhibdmehlcaaGreatDoor

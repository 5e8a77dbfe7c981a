import Derived.Test.YtpfmhibdmehlcaaGreatDoorTOx4
import Derived.Test.YtpfmhibdmehlcaaGreatDoorTOx5
import Derived.Laws.OwnMore
namespace Go.Proofs.YtpfmhibdmehlcaaGreatDoor
open Go.ChangeShapes Go.WideShapes Go.ChangeAt Go.RowKit Go.Deep
set_option linter.unusedVariables false
set_option linter.unusedSimpArgs false
set_option maxRecDepth 100000
theorem within_p (n a b : Int) (w : World) (q : Bool) (hq : q = (decide (a ≤ n) && decide (n ≤ b))) : Calls Tryz.prog 58 #[.int .i64 n, .int .i64 a, .int .i64 b] w fun e w' => e = .returned (.bool q) ∧ w' = w := by
 subst hq
 by_cases h : a ≤ n
 ·by_cases h2 : n ≤ b
  ·rw [decide_eq_true h, decide_eq_true h2]
   go_enter Tryz.func58, Tryz.ntmps58
   go_wp2
   go_ret
   exact ⟨rfl, rfl⟩
  ·rw [decide_eq_true h, decide_eq_false h2]
   have hd : decide (n ≤ b) = false := decide_eq_false h2
   go_enter Tryz.func58, Tryz.ntmps58
   go_wp2
   go_ret
   exact ⟨rfl, rfl⟩
 ·rw [decide_eq_false h]
  have hd : decide (a ≤ n) = false := decide_eq_false h
  go_enter Tryz.func58, Tryz.ntmps58
  go_wp2
  go_ret
  exact ⟨rfl, rfl⟩
set_option maxHeartbeats 4000000 in
theorem whole_p (mem : Int) (dao : Option Addr) (nd dc : Nat) (fao : Option Addr) (nf fc : Nat) (w : World) (p : PG) (hm : mem = p.mem) (hnd : nd = p.data.length) (hnf : nf = p.fns.length) :
  Calls Tryz.prog 39 #[.agg #[.int .i64 mem, .slice dao nd dc, .slice fao nf fc]] w fun e w' => e = .returned (.bool (!badP p)) ∧ Kept (fun _ => False) w w' := by
 have hkA : Kept (fun _ => False) w (w.alloc (.cells #[.int .i64 mem, .slice dao nd dc, .slice fao nf fc] 25)) := (Kept.refl _ _).alloc _
 have hbA := heap_alloc_new w (.cells #[.int .i64 mem, .slice dao nd dc, .slice fao nf fc] 25)
 have c0 := cell_block _ w.heap.size 0 _ _ _ hbA
 have c1 := cell_block _ w.heap.size 1 _ _ _ hbA
 have c2 := cell_block _ w.heap.size 2 _ _ _ hbA
 have HKA := hid_of hkA
 obtain ⟨b1, hb1⟩ := nmd ((decide ((0 : Int) ≤ mem) && decide (mem ≤ 65536)))
 obtain ⟨b3, hb3⟩ := nmd ((decide ((1 : Int) ≤ (nf : Int)) && decide ((nf : Int) ≤ 64)))
 have W1 := hid_of (fun W => within_p mem 0 65536 W b1 hb1)
 have W3 := hid_of (fun W => within_p (nf : Int) 1 64 W b3 hb3)
 have hbad : (!badP p) = (b1 && (decide ((nd : Int) ≤ mem) && b3)) := by
  rw [hb1, hb3, Bool.eq_iff_iff]
  unfold badP
  simp only [Bool.not_eq_true', decide_eq_false_iff_not, Bool.and_eq_true, decide_eq_true_eq]
  rw [hm, hnd, hnf]
  omega
 rw [hbad]
 clear hkA hbA hm hnd hnf hb1 hb3 hbad
 cases b1
 ·go_enter Tryz.func39, Tryz.ntmps39
  go_wp2_with fail
  refine (W1.out _).mono ?_
  rintro e w' ⟨rfl, rfl⟩
  go_wp2
  go_ret
  exact ⟨rfl, HKA.out⟩
 ·by_cases hd : (nd : Int) ≤ mem
  ·rw [decide_eq_true hd]
   cases b3
   all_goals
    go_enter Tryz.func39, Tryz.ntmps39
    go_wp2_with fail
    refine (W1.out _).mono ?_
    rintro e w' ⟨rfl, rfl⟩
    go_wp2_with fail
    refine (W3.out _).mono ?_
    rintro e w' ⟨rfl, rfl⟩
    go_wp2
    go_ret
    exact ⟨rfl, HKA.out⟩
  ·have hdf : decide ((nd : Int) ≤ mem) = false := decide_eq_false hd
   rw [hdf]
   go_enter Tryz.func39, Tryz.ntmps39
   go_wp2_with fail
   refine (W1.out _).mono ?_
   rintro e w' ⟨rfl, rfl⟩
   go_wp2
   go_ret
   exact ⟨rfl, HKA.out⟩
set_option maxHeartbeats 4000000 in
theorem hmay_p (fa fl fr : Int) (cao : Option Addr) (nc cc : Nat) (w : World) (f : FN) (h1 : fa = f.a) (h2 : fl = f.l) (h3 : fr = f.r) (h4 : nc = f.code.length) :
  Calls Tryz.prog 40 #[.agg #[.int .i64 fa, .int .i64 fl, .int .i64 fr, .slice cao nc cc]] w fun e w' => e = .returned (.bool (!badF f)) ∧ Kept (fun _ => False) w w' := by
 have hkB : Kept (fun _ => False) w (w.alloc (.cells #[.int .i64 fa, .int .i64 fl, .int .i64 fr, .slice cao nc cc] 51)) := (Kept.refl _ _).alloc _
 have hbB := heap_alloc_new w (.cells #[.int .i64 fa, .int .i64 fl, .int .i64 fr, .slice cao nc cc] 51)
 have y0 := cell_block _ w.heap.size 0 _ _ _ hbB
 have y1 := cell_block _ w.heap.size 1 _ _ _ hbB
 have y2 := cell_block _ w.heap.size 2 _ _ _ hbB
 have y3 := cell_block _ w.heap.size 3 _ _ _ hbB
 have HKB := hid_of hkB
 obtain ⟨b1, hb1⟩ := nmd ((decide ((0 : Int) ≤ fa) && decide (fa ≤ 16)))
 obtain ⟨b2, hb2⟩ := nmd ((decide (fa ≤ fl) && decide (fl ≤ 64)))
 obtain ⟨b3, hb3⟩ := nmd ((decide ((0 : Int) ≤ fr) && decide (fr ≤ 1)))
 obtain ⟨b4, hb4⟩ := nmd ((decide ((1 : Int) ≤ (nc : Int)) && decide ((nc : Int) ≤ 4096)))
 have W1 := hid_of (fun W => within_p fa 0 16 W b1 hb1)
 have W2 := hid_of (fun W => within_p fl fa 64 W b2 hb2)
 have W3 := hid_of (fun W => within_p fr 0 1 W b3 hb3)
 have W4 := hid_of (fun W => within_p (nc : Int) 1 4096 W b4 hb4)
 have hbad : (!badF f) = (b1 && (b2 && (b3 && b4))) := by
  rw [hb1, hb2, hb3, hb4, Bool.eq_iff_iff]
  unfold badF
  simp only [Bool.not_eq_true', decide_eq_false_iff_not, Bool.and_eq_true, decide_eq_true_eq]
  rw [h1, h2, h3, h4]
  omega
 rw [hbad]
 clear hkB hbB h1 h2 h3 h4 hb1 hb2 hb3 hb4 hbad
 cases b1
 ·go_enter Tryz.func40, Tryz.ntmps40
  go_wp2_with fail
  refine (W1.out _).mono ?_
  rintro e w' ⟨rfl, rfl⟩
  go_wp2
  go_ret
  exact ⟨rfl, HKB.out⟩
 ·cases b2
  ·go_enter Tryz.func40, Tryz.ntmps40
   go_wp2_with fail
   refine (W1.out _).mono ?_
   rintro e w' ⟨rfl, rfl⟩
   go_wp2_with fail
   refine (W2.out _).mono ?_
   rintro e w' ⟨rfl, rfl⟩
   go_wp2
   go_ret
   exact ⟨rfl, HKB.out⟩
  ·cases b3
   ·go_enter Tryz.func40, Tryz.ntmps40
    go_wp2_with fail
    refine (W1.out _).mono ?_
    rintro e w' ⟨rfl, rfl⟩
    go_wp2_with fail
    refine (W2.out _).mono ?_
    rintro e w' ⟨rfl, rfl⟩
    go_wp2_with fail
    refine (W3.out _).mono ?_
    rintro e w' ⟨rfl, rfl⟩
    go_wp2
    go_ret
    exact ⟨rfl, HKB.out⟩
   ·cases b4
    all_goals
     go_enter Tryz.func40, Tryz.ntmps40
     go_wp2_with fail
     refine (W1.out _).mono ?_
     rintro e w' ⟨rfl, rfl⟩
     go_wp2_with fail
     refine (W2.out _).mono ?_
     rintro e w' ⟨rfl, rfl⟩
     go_wp2_with fail
     refine (W3.out _).mono ?_
     rintro e w' ⟨rfl, rfl⟩
     go_wp2_with fail
     refine (W4.out _).mono ?_
     rintro e w' ⟨rfl, rfl⟩
     go_wp2
     go_ret
     exact ⟨rfl, HKB.out⟩
structure CoK (w wr : World) (lv : Value) (vs : List Value) (fs : List FN) : Prop where
 len : vs.length = fs.length
 row : wr.ownsRow w.heap.size 22 1 lv vs.length vs
 at' : ∀ (i : Nat) (v : Value) (f : FN), vs[i]? = some v → fs[i]? = some f → IsB wr v (encB f.code) ∧ ∀ g, v.ownBlock = some g → w.heap.size ≤ g ∧ g < wr.heap.size ∧ lv.ownBlock ≠ some g
 kept : Kept (fun _ => False) w wr
theorem CoK.same {w wr w' : World} {lv : Value} {vs : List Value} {fs : List FN} (h : CoK w wr lv vs fs) (hk : Kept (fun _ => False) wr w') : CoK w w' lv vs fs :=
 ⟨h.len, hk.ownsRow h.row (fun _ _ f => f), fun i v f hv hf => by
  obtain ⟨h1, h2⟩ := h.at' i v f hv hf
  exact ⟨h1.kept hk (fun _ _ f => f), fun g hg => ⟨(h2 g hg).1, Nat.lt_of_lt_of_le (h2 g hg).2.1 hk.size, (h2 g hg).2.2⟩⟩, h.kept.trans hk⟩
theorem Tryz.info22 : (Tryz.prog.info? 22).map (fun i => (i.zero, i.size, i.bytes)) = some (some (.slice none 0 0), 1, 24) := by kernel_rfl
theorem CoK.app {w W : World} {lv : Value} {vs : List Value} {fs : List FN} (h : CoK w W lv vs fs) (f : FN) (v : Value) (hv : IsB W v (encB f.code)) (hvo : ∀ g, v.ownBlock = some g → w.heap.size ≤ g ∧ g < W.heap.size ∧ lv.ownBlock ≠ some g) (hone : v.oneCell' = true) (hsz : (vs.length + 1) * 24 ≤ 140737488355328) :
  ∃ lv' w', (Builtin.append_ #[68, 68] 68 #[lv, .slice (some ⟨W.heap.size, 0, none⟩) 1 1]).run Tryz.prog (W.alloc (.cells #[v] 22)) = .ok lv' w' ∧ CoK w w' lv' (vs ++ [v]) (fs ++ [f]) := by
 obtain ⟨i0, hi, hz0, hz1, hz2⟩ := info_parts Tryz.info22
 obtain ⟨v', w', hr, h2, h3, h4, _⟩ := append_old (P := Tryz.prog) (W.alloc (.cells #[v] 22)) w.heap.size 68 68 22 i0 _ 1 24 Tryz.underlying68 hi hz0 hz1 hz2 rfl (by decide) lv vs.length vs (h.row.alloc _) ⟨W.heap.size, 0, none⟩ 1 1 [v] rfl (fun j u hj => by
  rw [Addr.add_lit, cell_block _ _ _ _ _ _ (heap_alloc_new W _), Nat.zero_add]
  simpa using hj) (fun u hu => by simp at hu; rw [hu]; exact hone) (by unfold maxLen; omega) hsz (by have := h.kept.size; simp; omega)
 have hk : Kept (fun k => lv.ownBlock = some k) W w' := ((Kept.refl _ W).alloc _).grown h3 (fun k hk => .inr hk)
 have hsz2 : (W.alloc (.cells #[v] 22)).heap.size = W.heap.size + 1 := by simp
 have hoff : ∀ g, g < W.heap.size → lv.ownBlock ≠ some g → v'.ownBlock ≠ some g := fun g h1 h2 e => by
  rcases h4 with e' | e'
  ·rw [e'] at e; exact h2 e
  ·rw [e', hsz2] at e
   have := Option.some.inj e
   omega
 refine ⟨v', w', hr, ⟨by simp [h.len], by rw [List.length_append]; exact h2, fun i u q hu hq => ?_, h.kept.step hk (fun q hq e => ?_)⟩⟩
 ·have key : IsB W u (encB q.code) ∧ ∀ g, u.ownBlock = some g → w.heap.size ≤ g ∧ g < W.heap.size ∧ lv.ownBlock ≠ some g := by
   by_cases hl : i < vs.length
   ·rw [List.getElem?_append_left hl] at hu
    rw [List.getElem?_append_left (by rw [← h.len]; exact hl)] at hq
    exact h.at' i u q hu hq
   ·have hl2 : i < (vs ++ [v]).length := (List.getElem?_eq_some_iff.1 hu).1
    rw [List.length_append] at hl2
    have hl3 : i = vs.length := by simp at hl2; omega
    subst hl3
    rw [List.getElem?_append_right (Nat.le_refl _)] at hu
    rw [h.len, List.getElem?_append_right (Nat.le_refl _)] at hq
    simp at hu hq
    subst hu
    subst hq
    exact ⟨hv, hvo⟩
  exact ⟨key.1.kept hk (fun g hg e => (key.2 g hg).2.2 e), fun g hg => ⟨(key.2 g hg).1, Nat.lt_of_lt_of_le (key.2 g hg).2.1 hk.size, hoff g (key.2 g hg).2.1 (key.2 g hg).2.2⟩⟩
 ·have := (h.row.lt q e).1
  omega
def CodesR (p : PG) (w : World) (e : Ending) (w' : World) : Prop :=
 Kept (fun _ => False) w w' ∧
 if checkP p = 0 then ∃ lv vs, e = .returned (.tuple #[lv, .int .i64 0]) ∧ CoK w w' lv vs p.fns
 else e = .returned (.tuple #[.slice none 0 0, .int .i64 (checkP p)])
set_option maxHeartbeats 8000000 in
theorem codes_p (v : Value) (p : PG) (w : World) (B : Nat) (h : PgIs w B v p) (hB : B ≤ w.heap.size) (ho : p.Ok) :
  Calls Tryz.prog 28 #[v] w (CodesR p w) := by
 obtain ⟨dv, fv, rfl, hd, hdl, hf⟩ := h
 obtain ⟨dao, dc, rfl⟩ := hd.shape
 obtain ⟨fao, fc, rfl⟩ := hf.shape
 obtain ⟨nd, hnd⟩ := nmd (p.data.length)
 obtain ⟨nf, hnf⟩ := nmd (p.fns.length)
 obtain ⟨mem, hmem⟩ := nmd (p.mem)
 rw [← hnf] at hf
 rw [← hmem, ← hnd, ← hnf]
 have HF := hid_of hf
 have HO := hid_of ho
 have HNF := hid_of hnf
 have HBB := hid_of hB
 have hkA : Kept (fun _ => False) w (w.alloc (.cells #[.int .i64 mem, .slice dao nd dc, .slice fao nf fc] 25)) := (Kept.refl _ _).alloc _
 have hbA := heap_alloc_new w (.cells #[.int .i64 mem, .slice dao nd dc, .slice fao nf fc] 25)
 have c0 := cell_block _ w.heap.size 0 _ _ _ hbA
 have c1 := cell_block _ w.heap.size 1 _ _ _ hbA
 have c2 := cell_block _ w.heap.size 2 _ _ _ hbA
 have HWM := hid_of (whole_p mem dao nd dc fao nf fc (w.alloc (.cells #[.int .i64 mem, .slice dao nd dc, .slice fao nf fc] 25)) p hmem hnd hnf)
 have HKA := hid_of hkA
 have HBA := hid_of hbA
 have hfit : (64 : Int) < (nf : Int) → badP p = true := fun h => by
  rcases bad_cases p with ⟨_, hb⟩ | ⟨hb, _⟩
  ·exact hb
  ·omega
 clear hd hdl hf ho hnf hnd hmem hB hkA hbA
 go_enter Tryz.func28, Tryz.ntmps28
 go_wp2_with fail
 generalize w.alloc (.cells #[.int .i64 mem, .slice dao nd dc, .slice fao nf fc] 25) = w0 at *
 refine HWM.out.mono ?_
 rintro e w1 ⟨rfl, hk1⟩
 have HK1 := hid_of (HKA.out.trans hk1)
 have HB1 : Hid (w1.heap[w.heap.size]? = some (.cells #[.int .i64 mem, .slice dao nd dc, .slice fao nf fc] 25 (0, 0))) := (hk1.block _ (Array.getElem?_eq_some_iff.1 HBA.out).1 id).trans HBA.out
 obtain ⟨gb, hgb⟩ := nmd (w.heap.size)
 rw [← hgb] at HB1
 rw [← hgb]
 clear hk1 HWM HKA HBA c0 c1 c2 hgb
 cases hbp : badP p with
 | true =>
  have HR : Hid (CodesR p w (.returned (.tuple #[.slice none 0 0, .int .i64 121])) w1) := ⟨HK1.out, by unfold checkP; rw [if_pos hbp, if_neg (by decide)]⟩
  clear hfit hbp
  go_wp2
  go_ret2
  exact HR.out
 | false =>
  have HC : Hid (checkP p = firstF p.fns) := by unfold Hid checkP; rw [if_neg (by rw [hbp]; decide)]
  have hnf64 : nf ≤ 64 := by
   rcases Nat.lt_or_ge 64 nf with h | h
   ·have := hfit (by omega); rw [hbp] at this; cases this
   ·exact h
  clear hfit hbp
  have c2 := cell_block _ gb 2 _ _ _ HB1.out
  have HC0 : Hid (CoK w w1 (.slice none 0 0) [] (p.fns.take 0)) := ⟨by simp, World.ownsRow_nil _ _ _ _, fun i v f hv => by simp at hv, HK1.out⟩
  go_wp2_with fail
  clear c2
  go_loopw [4, 15] (fun lv i wr => ∃ (k : Nat) (vs : List Value), k ≤ nf ∧ i = .int .i64 k ∧ vs.length = k ∧ Hid (CoK w wr lv vs (p.fns.take k)) ∧ Hid (∀ x ∈ p.fns.take k, errF x = 0)) (fun _ i _ => nf - (intOf i).toNat)
  case atStart => exact ⟨0, [], by omega, rfl, rfl, HC0, (fun x hx => by simp at hx)⟩
  case round =>
   obtain ⟨k, vs, hk, rfl, hvl, HCK, HGO⟩ := hrel
   have HVL := hid_of hvl
   clear hvl
   by_cases hlt : k < nf
   ·have hltI : (k : Int) < (nf : Int) := by omega
    obtain ⟨g, o, f, e1, hgB, hfi, hfa⟩ := (HF.out.kept HCK.out.kept (fun _ _ f => f)).at (i := k) (by rw [← HNF.out]; exact hlt)
    subst e1
    obtain ⟨cao, cc, x0, x1, x2, x3, hri, hcl⟩ := fn_read hfa
    have hfo := HO.out.fns f (List.mem_of_getElem? hfi)
    obtain ⟨fa, hfa'⟩ := nmd (f.a)
    obtain ⟨fl, hfl'⟩ := nmd (f.l)
    obtain ⟨fr, hfr'⟩ := nmd (f.r)
    obtain ⟨nc, hnc⟩ := nmd (f.code.length)
    have hen := encode_any (.slice cao nc cc) f.code
    have hncb := hfo.len
    rw [← hfa'] at x0
    rw [← hfl'] at x1
    rw [← hfr'] at x2
    rw [← hnc] at x3 hri hncb
    have hkB : Kept (fun _ => False) wr (wr.alloc (.cells #[.int .i64 fa, .int .i64 fl, .int .i64 fr, .slice cao nc cc] 51)) := (Kept.refl _ _).alloc _
    have hbB := heap_alloc_new wr (.cells #[.int .i64 fa, .int .i64 fl, .int .i64 fr, .slice cao nc cc] 51)
    have HHM := hid_of (hmay_p fa fl fr cao nc cc (wr.alloc (.cells #[.int .i64 fa, .int .i64 fl, .int .i64 fr, .slice cao nc cc] 51)) f hfa' hfl' hfr' hnc)
    have HEN : Hid (∀ W, Kept (fun _ => False) (wr.alloc (.cells #[.int .i64 fa, .int .i64 fl, .int .i64 fr, .slice cao nc cc] 51)) W → Calls Tryz.prog 41 #[.slice cao nc cc] W (EncR f.code W)) := fun W hW => hen W ((hri.kept hkB (fun _ _ f => f)).kept hW (fun _ _ f => f)) hfo.code (by rw [← hnc]; omega)
    have HKB := hid_of hkB
    have HBX := hid_of hbB
    have y0 := cell_block _ wr.heap.size 0 _ _ _ hbB
    have y1 := cell_block _ wr.heap.size 1 _ _ _ hbB
    have y2 := cell_block _ wr.heap.size 2 _ _ _ hbB
    have y3 := cell_block _ wr.heap.size 3 _ _ _ hbB
    have HFI := hid_of hfi
    clear hfa hri hcl hfo hfa' hfl' hfr' hnc hen hkB hbB hfi
    go_wp2_with fail
    refine HHM.out.mono ?_
    rintro e w5 ⟨rfl, hk5⟩
    have HK5 := hid_of hk5
    have HC5 := hid_of (HCK.out.same (HKB.out.trans hk5))
    have HB5 : Hid (w5.heap[wr.heap.size]? = some (.cells #[.int .i64 fa, .int .i64 fl, .int .i64 fr, .slice cao nc cc] 51 (0, 0))) := (hk5.block _ (Array.getElem?_eq_some_iff.1 HBX.out).1 id).trans HBX.out
    have HEN5 := hid_of (HEN.out w5 hk5)
    clear hk5 HHM HEN HBX y0 y1 y2 y3 x0 x1 x2 x3 HCK HKB HK5
    generalize wr.heap.size = gx at *
    have y3 := cell_block _ gx 3 _ _ _ HB5.out
    cases hbf : badF f with
    | true =>
     have he : errF f = 121 := by unfold errF; rw [if_pos hbf]
     have HR : Hid (CodesR p w (.returned (.tuple #[.slice none 0 0, .int .i64 121])) w5) := ⟨HC5.out.kept, by rw [HC.out, firstF_bad p.fns k f HGO.out HFI.out (by rw [he]; decide), he, if_neg (by decide)]⟩
     clear he hbf HEN5
     go_wp2
     go_ret2
     exact HR.out
    | false =>
     have he : errF f = encE f.code := by unfold errF; rw [if_neg (by rw [hbf]; decide)]
     have HE := hid_of he
     clear he hbf
     go_wp2_with fail
     refine HEN5.out.mono ?_
     rintro e w6 ⟨hk6, he6⟩
     have HC6 := hid_of (HC5.out.same hk6)
     have HS6 : Hid (∀ q, u4.ownBlock = some q → q < w5.heap.size) := fun q hq => (HC5.out.row.lt q hq).2
     have HSW : Hid (w.heap.size ≤ w5.heap.size) := HC5.out.kept.size
     clear hk6 HEN5 HC5 HB5 y3
     by_cases hE : encE f.code = 0
     ·rw [if_pos hE] at he6
      obtain ⟨v6, rfl, ho6⟩ := he6
      obtain ⟨bo, bc, hv6⟩ := ownsRow_shape ho6
      obtain ⟨bl, hbl⟩ := nmd ((encB f.code).length)
      rw [← hbl] at hv6
      subst hv6
      have HGO2 := hid_of (take_good HGO.out HFI.out (by rw [HE.out]; exact hE))
      obtain ⟨lv', w8, hr8, hC8⟩ := HC6.out.app f (.slice bo bl bc) (isB_own ho6) (fun g hg => ⟨Nat.le_trans HSW.out (ho6.lt g hg).1, (ho6.lt g hg).2, fun e => by have h1 := HS6.out g e; have h2 := (ho6.lt g hg).1; omega⟩) rfl (by rw [HVL.out]; omega)
      have htk : p.fns.take k ++ [f] = p.fns.take (k + 1) := by rw [List.take_add_one, HFI.out]; rfl
      rw [htk] at hC8
      have HR8 := hid_of hr8
      have HC8 := hid_of hC8
      have HVL2 : Hid ((vs ++ [Value.slice bo bl bc]).length = k + 1) := by unfold Hid; rw [List.length_append, HVL.out]; rfl
      clear ho6 hbl hE hr8 hC8 htk
      go_wp2_with (at_builtin; refine wp_app2 rfl (.tmp 31) (.tmp 33) 68 68 rfl _ _ rfl rfl lv' w8 HR8.out ?_)
      go_roundw
      case rel => exact ⟨k + 1, _, by omega, by go_num, HVL2.out, HC8, HGO2⟩
      case measure => simp [intOf]; omega
     ·rw [if_neg hE] at he6
      subst he6
      have HR : Hid (CodesR p w (.returned (.tuple #[.slice none 0 0, .int .i64 (encE f.code)])) w6) := ⟨HC6.out.kept, by rw [HC.out, firstF_bad p.fns k f HGO.out HFI.out (by rw [HE.out]; exact hE), HE.out, if_neg hE]⟩
      obtain ⟨ee, hee⟩ := nmd (encE f.code)
      rw [← hee] at HR hE ⊢
      have hb : (ee == 0) = false := by simp; exact hE
      have hb2 : (ee != 0) = true := by simp; exact hE
      clear hee
      go_wp2
      go_ret2
      exact HR.out
   ·have hnl : ¬ ((k : Int) < (nf : Int)) := by omega
    have hta : p.fns.take k = p.fns := List.take_of_length_le (by rw [← HNF.out]; omega)
    have hck := HCK.out
    have hgo := HGO.out
    rw [hta] at hck hgo
    have HR : Hid (CodesR p w (.returned (.tuple #[u4, .int .i64 0])) wr) := ⟨hck.kept, by rw [HC.out, firstF_good _ hgo, if_pos rfl]; exact ⟨_, vs, rfl, hck⟩⟩
    clear hta hck hgo
    go_wp2
    go_ret2
    exact HR.out
set_option maxHeartbeats 4000000 in
theorem check_p (v : Value) (p : PG) (w : World) (B : Nat) (h : PgIs w B v p) (hB : B ≤ w.heap.size) (ho : p.Ok) :
  Calls Tryz.prog 18 #[v] w fun e w' => e = .returned (.int .i64 (checkP p)) ∧ Kept (fun _ => False) w w' := by
 have hpg := h
 obtain ⟨dv, fv, rfl, hd, hdl, hf⟩ := h
 obtain ⟨dao, dc, rfl⟩ := hd.shape
 obtain ⟨fao, fc, rfl⟩ := hf.shape
 obtain ⟨nd, hnd⟩ := nmd (p.data.length)
 obtain ⟨nf, hnf⟩ := nmd (p.fns.length)
 obtain ⟨mem, hmem⟩ := nmd (p.mem)
 rw [← hmem, ← hnd, ← hnf] at hpg ⊢
 obtain ⟨ee, hee⟩ := nmd (checkP p)
 have HEE := hid_of hee
 rw [← hee]
 clear hee
 have hkA : Kept (fun _ => False) w (w.alloc (.cells #[.int .i64 mem, .slice dao nd dc, .slice fao nf fc] 25)) := (Kept.refl _ _).alloc _
 have hbA := heap_alloc_new w (.cells #[.int .i64 mem, .slice dao nd dc, .slice fao nf fc] 25)
 have c0 := cell_block _ w.heap.size 0 _ _ _ hbA
 have c1 := cell_block _ w.heap.size 1 _ _ _ hbA
 have c2 := cell_block _ w.heap.size 2 _ _ _ hbA
 have HCO := hid_of (codes_p _ p _ B (hpg.kept hkA (fun _ _ f => f)) (Nat.le_trans hB hkA.size) ho)
 have HKA := hid_of hkA
 clear hd hdl hf ho hnf hnd hmem hB hkA hbA hpg
 go_enter Tryz.func18, Tryz.ntmps18
 go_wp2_with fail
 refine HCO.out.mono ?_
 rintro e w1 ⟨hk1, he⟩
 have HK1 := hid_of (HKA.out.trans hk1)
 clear HCO hk1 c0 c1 c2
 by_cases hck : checkP p = 0
 ·rw [if_pos hck] at he
  obtain ⟨lv, vs, rfl, hco⟩ := he
  obtain ⟨lo, lc, hlv⟩ := ownsRow_shape hco.row
  subst hlv
  have h0 : ee = 0 := by rw [HEE.out]; exact hck
  subst h0
  clear hco hck HEE
  generalize vs.length = nv at *
  go_wp2
  go_ret
  exact ⟨rfl, HK1.out⟩
 ·rw [if_neg hck] at he
  subst he
  rw [← HEE.out]
  clear hck HEE
  go_wp2
  go_ret
  exact ⟨rfl, HK1.out⟩
end Go.Proofs.YtpfmhibdmehlcaaGreatDoor
namespace Go.Proofs.YtpfmhibdmehlcaaGreatDoor
open Go.RowKit
set_option linter.unusedVariables false
set_option linter.unusedSimpArgs false
set_option maxRecDepth 100000
theorem built63 : Tryz.prog.built 174 (tparts sysL) = some (tcells sysL).toArray := by kernel_rfl
theorem size63 : (Tryz.prog.info? 174).map (·.size) = some (tcells sysL).toArray.size := by kernel_rfl
section
variable {ops : Array Oper} {o : Oper} {a : Act} {w : World} {Q : Exit → Act → World → Prop} {rest : List Oper}
theorem wpList_tab63 (hg : o.guard = none) (parts : Array (Nat × Operand)) (ho : o.op = .build 174 parts) (e : (parts.map fun (i, x) => (i, a.eval x)).toList = tparts sysL)
  (h : wpList Tryz.prog ops Q rest (a.put o.dst (.agg (tcells sysL).toArray)) w) : wpList Tryz.prog ops Q (o :: rest) a w := by
 refine wpList_build hg 174 _ ho (by rw [e, built63]; rfl) ?_
 rw [e, built63]
 exact h
end
set_option maxHeartbeats 4000000 in
theorem sys_any (w : World) : Calls Tryz.prog 87 #[] w fun e w' => e = .returned (.agg (tcells sysL).toArray) ∧ Kept (fun _ => False) w w' := by
 obtain ⟨hO, hX, hK⟩ := new_row w z63 (tcells sysL).toArray 174
 go_enter Tryz.func87, Tryz.ntmps87
 go_wp2_with (first | refine wpList_to rfl (some 0) rfl (.pointer (some ⟨w.heap.size, 0, none⟩)) (w.alloc (.cells z63 174)) (by kernel_rfl) ?_ | refine wpList_tab63 rfl _ rfl (by kernel_rfl) ?_ | refine wpList_store_row rfl 174 _ _ rfl w.heap.size (tcells sysL).toArray rfl rfl 174 _ hO size63 (by kernel_rfl) one63 ?_)
 refine bodyPost_ret (v := .agg (tcells sysL).toArray) ?_ rfl ⟨rfl, hK⟩
 exact results_cell_row (by rfl) _ _ w.heap.size 174 _ (0, 0) _ (by rfl) hX Tryz.underlying174 rfl size63
set_option maxHeartbeats 4000000 in
theorem row_any (L : List Sh) (g t : Nat) (n : Int) (w : World) (hg : w.heap[g]? = some (.cells (tcells L).toArray t (0, 0))) (hn0 : -9223372036854775808 ≤ n) (hn1 : n < 9223372036854775808) (hL : L.length ≤ 46) :
  Calls Tryz.prog 86 #[.slice (some ⟨g, 0, none⟩) L.length L.length, .int .i64 n] w fun e w' => e = .returned (.tuple #[.agg (rowS L n).cells.toArray, .bool (isRow L n)]) ∧ Kept (fun _ => False) w w' := by
 by_cases h : 0 ≤ n ∧ n < (L.length : Int)
 ·obtain ⟨k, rfl⟩ : ∃ k : Nat, n = k := ⟨n.toNat, by omega⟩
  have hkl : k < L.length := by omega
  have hr : Hid (rowS L (k : Int) = L.getD k Sh.none ∧ isRow L (k : Int) = true) := by
   unfold Hid rowS isRow
   rw [if_pos h, decide_eq_true h]
   exact ⟨by simp, rfl⟩
  generalize hs : L.getD k Sh.none = s at *
  have hc : ∀ j v, s.cells[j]? = some v → w.cell? ⟨g, k * 4 + j, none⟩ = some v := fun j v hv => by
   have hj : j < 4 := by
    have := (List.getElem?_eq_some_iff.1 hv).1
    simpa [Sh.cells] using this
   rw [cell_block _ _ _ _ _ _ hg]
   have := tcells_get L k j hkl hj
   rw [hs, hv] at this
   simpa using this
  have hrg : (w.alloc (.cells Sh.none.cells.toArray 147)).rangeAt g (k * 4) s.cells := fun j v hv => ((Kept.refl (fun _ => False) w).alloc _).cell (hc j v hv) id
  have hk0 : (0 : Int) ≤ (k : Int) := h.1
  have hk1 : (k : Int) < (L.length : Int) := h.2
  have hk2 : ¬ ((k : Int) < 0) := by omega
  obtain ⟨hO, hX, hK⟩ := new_row w (Sh.none.cells.toArray) s.cells.toArray 147
  clear hn0 hn1 hs hc h hg
  generalize L.length = N at *
  go_enter Tryz.func86, Tryz.ntmps86
  go_wp2_with (first | refine wpList_load_mid rfl 147 _ rfl g (k * 4) rfl s.cells _ hrg Tryz.underlying147 rfl size24 ?_ | refine wpList_store_row rfl 147 _ _ rfl w.heap.size s.cells.toArray rfl rfl 147 _ hO size24 rfl (sh_one s) ?_)
  refine bodyPost_ret (v := .tuple #[.agg s.cells.toArray, .bool true]) ?_ rfl ⟨by rw [hr.out.1, hr.out.2], hK⟩
  exact results_row_tmp (by rfl) _ _ ⟨w.heap.size, 0, none⟩ _ _ (by rfl) (by rfl) (run_loadVar_row _ w.heap.size 147 147 _ (0, 0) _ hX Tryz.underlying147 rfl size24)
 ·have hr : Hid (rowS L n = Sh.none ∧ isRow L n = false) := by
   unfold Hid rowS isRow
   rw [if_neg h, decide_eq_false h]
   exact ⟨rfl, rfl⟩
  obtain ⟨hO, hX, hK⟩ := new_row w (Sh.none.cells.toArray) Sh.none.cells.toArray 147
  have hd : (decide (n < 0) || decide ((L.length : Int) ≤ n)) = true := by
   rw [Bool.or_eq_true, decide_eq_true_iff, decide_eq_true_iff]
   omega
  clear h hg
  generalize L.length = N at *
  have HX := hid_of (heap_alloc2_old w (.cells Sh.none.cells.toArray 147) (.cells Sh.none.cells.toArray 147))
  have HK := hid_of (((Kept.refl (fun _ => False) w).alloc (.cells Sh.none.cells.toArray 147)).alloc (.cells Sh.none.cells.toArray 147))
  clear hO hX hK
  go_enter Tryz.func86, Tryz.ntmps86
  go_wp2
  all_goals
   refine bodyPost_ret (v := .tuple #[.agg Sh.none.cells.toArray, .bool false]) ?_ rfl ⟨by rw [hr.out.1, hr.out.2], HK.out⟩
   exact results_row_tmp (by rfl) _ _ ⟨w.heap.size, 0, none⟩ _ _ (by rfl) (by rfl) (run_loadVar_row _ w.heap.size 147 147 _ (0, 0) _ HX.out Tryz.underlying147 rfl size24)
set_option maxHeartbeats 4000000 in
theorem of_any (n : Int) (w : World) (hn0 : -9223372036854775808 ≤ n) (hn1 : n < 9223372036854775808) :
  Calls Tryz.prog 66 #[.int .i64 n] w fun e w' => e = .returned (.tuple #[.agg (rowS insL n).cells.toArray, .bool (isRow insL n)]) ∧ Kept (fun _ => False) w w' := by
 have hB0 := heap_alloc_new w (.cells Sh.none.cells.toArray 147)
 have hK0 : Kept (fun _ => False) w (w.alloc (.cells Sh.none.cells.toArray 147)) := (Kept.refl _ _).alloc _
 go_enter Tryz.func66, Tryz.ntmps66
 go_wp2_with fail
 refine (ins_any _).mono ?_
 rintro e w1 ⟨rfl, hk1⟩
 have HB1 := hid_of (box_kept hk1 hB0 id)
 have HK1 := hid_of (hK0.trans hk1)
 clear hB0 hk1 hK0
 obtain ⟨hO, hX, hK⟩ := new_row w1 z57 (tcells insL).toArray 165
 go_upto_region 2 with (first | refine wpList_to rfl (some 4) rfl (.pointer (some ⟨w1.heap.size, 0, none⟩)) (w1.alloc (.cells z57 165)) (by kernel_rfl) ?_ | refine wpList_store_row rfl 165 _ _ rfl w1.heap.size (tcells insL).toArray rfl rfl 165 _ hO size57 (by kernel_rfl) one57 ?_)
 clear hO
 generalize (w1.alloc (.cells z57 165)).setRow w1.heap.size (tcells insL).toArray = w2 at *
 have HB2 := hid_of (box_kept hK HB1.out id)
 have HK2 := hid_of (HK1.out.trans hK)
 have HR := hid_of (row_any insL w1.heap.size 165 n w2 hX hn0 hn1 (by decide))
 clear hK HB1 HK1
 go_wp2_with fail
 refine HR.out.mono ?_
 rintro e w3 ⟨rfl, hk3⟩
 have HK3 := hid_of (HK2.out.trans hk3)
 have hB3 := box_kept hk3 HB2.out id
 clear hk3 HR HB2 HK2 hX
 obtain ⟨s, hs⟩ : ∃ s, rowS insL n = s := ⟨_, rfl⟩
 obtain ⟨b, hb⟩ : ∃ b, isRow insL n = b := ⟨_, rfl⟩
 rw [hs, hb]
 have HS := hid_of hs
 have HB := hid_of hb
 clear hs hb
 have HX := hid_of (setRow_heap w3 w.heap.size _ s.cells.toArray 147 (0, 0) hB3)
 have HKX := hid_of (HK3.out.step (kept_row w3 w.heap.size s.cells.toArray) (fun i hi e => by omega))
 go_wp2_with (refine wpList_store_row rfl 147 _ _ rfl w.heap.size s.cells.toArray rfl rfl 147 _ hB3 size24 rfl (sh_one s) ?_)
 refine bodyPost_ret (v := .tuple #[.agg s.cells.toArray, .bool b]) ?_ rfl ⟨by rw [HS.out, HB.out], HKX.out⟩
 exact results_row_tmp (by rfl) _ _ ⟨w.heap.size, 0, none⟩ _ _ (by rfl) (by rfl) (run_loadVar_row _ w.heap.size 147 147 _ (0, 0) _ HX.out Tryz.underlying147 rfl size24)
set_option maxHeartbeats 4000000 in
theorem sysof_any (n : Int) (w : World) (hn0 : -9223372036854775808 ≤ n) (hn1 : n < 9223372036854775808) :
  Calls Tryz.prog 67 #[.int .i64 n] w fun e w' => e = .returned (.tuple #[.agg (rowS sysL n).cells.toArray, .bool (isRow sysL n)]) ∧ Kept (fun _ => False) w w' := by
 have hB0 := heap_alloc_new w (.cells Sh.none.cells.toArray 147)
 have hK0 : Kept (fun _ => False) w (w.alloc (.cells Sh.none.cells.toArray 147)) := (Kept.refl _ _).alloc _
 go_enter Tryz.func67, Tryz.ntmps67
 go_wp2_with fail
 refine (sys_any _).mono ?_
 rintro e w1 ⟨rfl, hk1⟩
 have HB1 := hid_of (box_kept hk1 hB0 id)
 have HK1 := hid_of (hK0.trans hk1)
 clear hB0 hk1 hK0
 obtain ⟨hO, hX, hK⟩ := new_row w1 z63 (tcells sysL).toArray 174
 go_upto_region 2 with (first | refine wpList_to rfl (some 4) rfl (.pointer (some ⟨w1.heap.size, 0, none⟩)) (w1.alloc (.cells z63 174)) (by kernel_rfl) ?_ | refine wpList_store_row rfl 174 _ _ rfl w1.heap.size (tcells sysL).toArray rfl rfl 174 _ hO size63 (by kernel_rfl) one63 ?_)
 clear hO
 generalize (w1.alloc (.cells z63 174)).setRow w1.heap.size (tcells sysL).toArray = w2 at *
 have HB2 := hid_of (box_kept hK HB1.out id)
 have HK2 := hid_of (HK1.out.trans hK)
 have HR := hid_of (row_any sysL w1.heap.size 174 n w2 hX hn0 hn1 (by decide))
 clear hK HB1 HK1
 go_wp2_with fail
 refine HR.out.mono ?_
 rintro e w3 ⟨rfl, hk3⟩
 have HK3 := hid_of (HK2.out.trans hk3)
 have hB3 := box_kept hk3 HB2.out id
 clear hk3 HR HB2 HK2 hX
 obtain ⟨s, hs⟩ : ∃ s, rowS sysL n = s := ⟨_, rfl⟩
 obtain ⟨b, hb⟩ : ∃ b, isRow sysL n = b := ⟨_, rfl⟩
 rw [hs, hb]
 have HS := hid_of hs
 have HB := hid_of hb
 clear hs hb
 have HX := hid_of (setRow_heap w3 w.heap.size _ s.cells.toArray 147 (0, 0) hB3)
 have HKX := hid_of (HK3.out.step (kept_row w3 w.heap.size s.cells.toArray) (fun i hi e => by omega))
 go_wp2_with (refine wpList_store_row rfl 147 _ _ rfl w.heap.size s.cells.toArray rfl rfl 147 _ hB3 size24 rfl (sh_one s) ?_)
 refine bodyPost_ret (v := .tuple #[.agg s.cells.toArray, .bool b]) ?_ rfl ⟨by rw [HS.out, HB.out], HKX.out⟩
 exact results_row_tmp (by rfl) _ _ ⟨w.heap.size, 0, none⟩ _ _ (by rfl) (by rfl) (run_loadVar_row _ w.heap.size 147 147 _ (0, 0) _ HX.out Tryz.underlying147 rfl size24)
end Go.Proofs.YtpfmhibdmehlcaaGreatDoor

import Derived.Test.YtgoabnehdmdikaaGreatDoorTLg4
import Derived.Laws.OwnMore
import Derived.Shelf.Lay
import Derived.Shelf.LaysM
import Derived.Shelf.LaysC
import Derived.Shelf.Small.Wraps
import Derived.Shelf.Strconv.Itoa3
import Derived.Shelf.Strconv.ParseIntPublic10
import Derived.Shelf.Strconv.AppendIntPublic10
import Derived.Shelf.Strings.Prefix
import Derived.Shelf.Strings.Split
import Derived.Shelf.Strings.AsciiSet
import Derived.Deep.RegionHeld3
import Derived.Deep.MidRow
import Derived.Deep.AppendSrc
import Derived.Laws.ResultCell
set_option linter.unusedVariables false
set_option linter.unusedSimpArgs false
set_option maxRecDepth 100000
set_option maxHeartbeats 64000000
namespace Go.Proofs.YtgoabnehdmdikaaGreatDoor
open Go.ChangeShapes Go.WideShapes Go.ChangeAt Go.RowKit Go.Deep
theorem Zc0 (n a b : Int) (w : World) (q : Bool) (hq : q = (decide (a ≤ n) && decide (n ≤ b))) : Calls Tryz.prog 92 #[.int .i64 n, .int .i64 a, .int .i64 b] w fun e w' => e = .returned (.bool q) ∧ w' = w := by
 subst hq
 by_cases h : a ≤ n
 ·by_cases h2 : n ≤ b
  ·rw [decide_eq_true h, decide_eq_true h2]
   go_enter Tryz.func92, Tryz.ntmps92
   go_wp2
   go_ret
   exact ⟨rfl, rfl⟩
  ·rw [decide_eq_true h, decide_eq_false h2]
   have hd : decide (n ≤ b) = false := decide_eq_false h2
   go_enter Tryz.func92, Tryz.ntmps92
   go_wp2
   go_ret
   exact ⟨rfl, rfl⟩
 ·rw [decide_eq_false h]
  have hd : decide (a ≤ n) = false := decide_eq_false h
  go_enter Tryz.func92, Tryz.ntmps92
  go_wp2
  go_ret
  exact ⟨rfl, rfl⟩
theorem Zu6 (mem : Int) (dao : Option Addr) (nd dc : Nat) (fao : Option Addr) (nf fc : Nat) (w : World) (p : PG) (hm : mem = p.mem) (hnd : nd = p.data.length) (hnf : nf = p.fns.length) :
  Calls Tryz.prog 69 #[.agg #[.int .i64 mem, .slice dao nd dc, .slice fao nf fc]] w fun e w' => e = .returned (.bool (!Zea p)) ∧ Kept nF w w' := by
 have hkA : Kept nF w (w.alloc (.cells #[.int .i64 mem, .slice dao nd dc, .slice fao nf fc] 26)) := (Kept.refl _ _).alloc _
 have hbA := heap_alloc_new w (.cells #[.int .i64 mem, .slice dao nd dc, .slice fao nf fc] 26)
 have c0 := Zb _ w.heap.size 0 _ _ _ hbA
 have c1 := Zb _ w.heap.size 1 _ _ _ hbA
 have c2 := Zb _ w.heap.size 2 _ _ _ hbA
 have HKA := Za hkA
 obtain ⟨b1, hb1⟩ := nmd ((decide ((0 : Int) ≤ mem) && decide (mem ≤ 65536)))
 obtain ⟨b3, hb3⟩ := nmd ((decide ((1 : Int) ≤ (nf : Int)) && decide ((nf : Int) ≤ 64)))
 have W1 := Za (fun W => Zc0 mem 0 65536 W b1 hb1)
 have W3 := Za (fun W => Zc0 (nf : Int) 1 64 W b3 hb3)
 have hbad : (!Zea p) = (b1 && (decide ((nd : Int) ≤ mem) && b3)) := by
  rw [hb1, hb3, Bool.eq_iff_iff]
  unfold Zea
  simp only [Bool.not_eq_true', decide_eq_false_iff_not, Bool.and_eq_true, decide_eq_true_eq]
  rw [hm, hnd, hnf]
  omega
 rw [hbad]
 clear hkA hbA hm hnd hnf hb1 hb3 hbad
 cases b1
 ·go_enter Tryz.func69, Tryz.ntmps69
  go_wp2_with fail
  refine (W1.out _).mono ?_
  rintro e w' ⟨rfl, rfl⟩
  go_wp2
  go_ret
  exact ⟨rfl, HKA.out⟩
 ·by_cases hd : (nd : Int) ≤ mem
  ·rw [decide_eq_true hd]
   cases b3
   all_goals
    go_enter Tryz.func69, Tryz.ntmps69
    go_wp2_with fail
    refine (W1.out _).mono ?_
    rintro e w' ⟨rfl, rfl⟩
    go_wp2_with fail
    refine (W3.out _).mono ?_
    rintro e w' ⟨rfl, rfl⟩
    go_wp2
    go_ret
    exact ⟨rfl, HKA.out⟩
  ·have hdf : decide ((nd : Int) ≤ mem) = false := decide_eq_false hd
   rw [hdf]
   go_enter Tryz.func69, Tryz.ntmps69
   go_wp2_with fail
   refine (W1.out _).mono ?_
   rintro e w' ⟨rfl, rfl⟩
   go_wp2
   go_ret
   exact ⟨rfl, HKA.out⟩
theorem Zwq (fa fl fr : Int) (cao : Option Addr) (nc cc : Nat) (w : World) (f : FN) (h1 : fa = f.a) (h2 : fl = f.l) (h3 : fr = f.r) (h4 : nc = f.code.length) :
  Calls Tryz.prog 70 #[.agg #[.int .i64 fa, .int .i64 fl, .int .i64 fr, .slice cao nc cc]] w fun e w' => e = .returned (.bool (!Zh0 f)) ∧ Kept nF w w' := by
 have hkB : Kept nF w (w.alloc (.cells #[.int .i64 fa, .int .i64 fl, .int .i64 fr, .slice cao nc cc] 78)) := (Kept.refl _ _).alloc _
 have hbB := heap_alloc_new w (.cells #[.int .i64 fa, .int .i64 fl, .int .i64 fr, .slice cao nc cc] 78)
 have y0 := Zb _ w.heap.size 0 _ _ _ hbB
 have y1 := Zb _ w.heap.size 1 _ _ _ hbB
 have y2 := Zb _ w.heap.size 2 _ _ _ hbB
 have y3 := Zb _ w.heap.size 3 _ _ _ hbB
 have HKB := Za hkB
 obtain ⟨b1, hb1⟩ := nmd ((decide ((0 : Int) ≤ fa) && decide (fa ≤ 16)))
 obtain ⟨b2, hb2⟩ := nmd ((decide (fa ≤ fl) && decide (fl ≤ 64)))
 obtain ⟨b3, hb3⟩ := nmd ((decide ((0 : Int) ≤ fr) && decide (fr ≤ 1)))
 obtain ⟨b4, hb4⟩ := nmd ((decide ((1 : Int) ≤ (nc : Int)) && decide ((nc : Int) ≤ 4096)))
 have W1 := Za (fun W => Zc0 fa 0 16 W b1 hb1)
 have W2 := Za (fun W => Zc0 fl fa 64 W b2 hb2)
 have W3 := Za (fun W => Zc0 fr 0 1 W b3 hb3)
 have W4 := Za (fun W => Zc0 (nc : Int) 1 4096 W b4 hb4)
 have hbad : (!Zh0 f) = (b1 && (b2 && (b3 && b4))) := by
  rw [hb1, hb2, hb3, hb4, Bool.eq_iff_iff]
  unfold Zh0
  simp only [Bool.not_eq_true', decide_eq_false_iff_not, Bool.and_eq_true, decide_eq_true_eq]
  rw [h1, h2, h3, h4]
  omega
 rw [hbad]
 clear hkB hbB h1 h2 h3 h4 hb1 hb2 hb3 hb4 hbad
 cases b1
 ·go_enter Tryz.func70, Tryz.ntmps70
  go_wp2_with fail
  refine (W1.out _).mono ?_
  rintro e w' ⟨rfl, rfl⟩
  go_wp2
  go_ret
  exact ⟨rfl, HKB.out⟩
 ·cases b2
  ·go_enter Tryz.func70, Tryz.ntmps70
   go_wp2_with fail
   refine (W1.out _).mono ?_
   rintro e w' ⟨rfl, rfl⟩
   go_wp2_with fail
   refine (W2.out _).mono ?_
   rintro e w' ⟨rfl, rfl⟩
   go_wp2
   go_ret
   exact ⟨rfl, HKB.out⟩
  ·cases b3
   ·go_enter Tryz.func70, Tryz.ntmps70
    go_wp2_with fail
    refine (W1.out _).mono ?_
    rintro e w' ⟨rfl, rfl⟩
    go_wp2_with fail
    refine (W2.out _).mono ?_
    rintro e w' ⟨rfl, rfl⟩
    go_wp2_with fail
    refine (W3.out _).mono ?_
    rintro e w' ⟨rfl, rfl⟩
    go_wp2
    go_ret
    exact ⟨rfl, HKB.out⟩
   ·cases b4
    all_goals
     go_enter Tryz.func70, Tryz.ntmps70
     go_wp2_with fail
     refine (W1.out _).mono ?_
     rintro e w' ⟨rfl, rfl⟩
     go_wp2_with fail
     refine (W2.out _).mono ?_
     rintro e w' ⟨rfl, rfl⟩
     go_wp2_with fail
     refine (W3.out _).mono ?_
     rintro e w' ⟨rfl, rfl⟩
     go_wp2_with fail
     refine (W4.out _).mono ?_
     rintro e w' ⟨rfl, rfl⟩
     go_wp2
     go_ret
     exact ⟨rfl, HKB.out⟩
structure CoK (w wr : World) (lv : Value) (vs : List Value) (fs : List FN) : Prop where
 len : vs.length = fs.length
 row : wr.ownsRow w.heap.size 23 1 lv vs.length vs
 at' : ∀ (i : Nat) (v : Value) (f : FN), vs[i]? = some v → fs[i]? = some f → IsB wr v (Xj f.code) ∧ ∀ g, v.ownBlock = some g → w.heap.size ≤ g ∧ g < wr.heap.size ∧ lv.ownBlock ≠ some g
 kept : Kept nF w wr
theorem CoK.same {w wr w' : World} {lv : Value} {vs : List Value} {fs : List FN} (h : CoK w wr lv vs fs) (hk : Kept nF wr w') : CoK w w' lv vs fs :=
 ⟨h.len, hk.ownsRow h.row (fun _ _ f => f), fun i v f hv hf => by
  obtain ⟨h1, h2⟩ := h.at' i v f hv hf
  exact ⟨h1.kept hk (fun _ _ f => f), fun g hg => ⟨(h2 g hg).1, Nat.lt_of_lt_of_le (h2 g hg).2.1 hk.size, (h2 g hg).2.2⟩⟩, h.kept.trans hk⟩
theorem Tryz.info23 : (Tryz.prog.info? 23).map (fun i => (i.zero, i.size, i.bytes)) = some (some (.slice none 0 0), 1, 24) := by kernel_rfl
theorem CoK.app {w W : World} {lv : Value} {vs : List Value} {fs : List FN} (h : CoK w W lv vs fs) (f : FN) (v : Value) (hv : IsB W v (Xj f.code)) (hvo : ∀ g, v.ownBlock = some g → w.heap.size ≤ g ∧ g < W.heap.size ∧ lv.ownBlock ≠ some g) (hone : v.oneCell' = true) (hsz : (vs.length + 1) * 24 ≤ 140737488355328) :
  ∃ lv' w', (Builtin.append_ #[114, 114] 114 #[lv, .slice (some ⟨W.heap.size, 0, none⟩) 1 1]).run Tryz.prog (W.alloc (.cells #[v] 23)) = .ok lv' w' ∧ CoK w w' lv' (vs ++ [v]) (fs ++ [f]) := by
 obtain ⟨i0, hi, hz0, hz1, hz2⟩ := info_parts Tryz.info23
 obtain ⟨v', w', hr, h2, h3, h4, _⟩ := Zaa (P := Tryz.prog) (W.alloc (.cells #[v] 23)) w.heap.size 114 114 23 i0 _ 1 24 Tryz.underlying114 hi hz0 hz1 hz2 rfl (by decide) lv vs.length vs (h.row.alloc _) ⟨W.heap.size, 0, none⟩ 1 1 [v] rfl (fun j u hj => by
  rw [Addr.add_lit, Zb _ _ _ _ _ _ (heap_alloc_new W _), Nat.zero_add]
  simpa using hj) (fun u hu => by simp at hu; rw [hu]; exact hone) (by unfold maxLen; omega) hsz (by have := h.kept.size; simp; omega)
 have hk : Kept (fun k => lv.ownBlock = some k) W w' := ((Kept.refl _ W).alloc _).grown h3 (fun k hk => .inr hk)
 have hsz2 : (W.alloc (.cells #[v] 23)).heap.size = W.heap.size + 1 := by simp
 have hoff : ∀ g, g < W.heap.size → lv.ownBlock ≠ some g → v'.ownBlock ≠ some g := fun g h1 h2 e => by
  rcases h4 with e' | e'
  ·rw [e'] at e; exact h2 e
  ·rw [e', hsz2] at e
   have := Option.some.inj e
   omega
 refine ⟨v', w', hr, ⟨by simp [h.len], by rw [List.length_append]; exact h2, fun i u q hu hq => ?_, h.kept.step hk (fun q hq e => ?_)⟩⟩
 ·have key : IsB W u (Xj q.code) ∧ ∀ g, u.ownBlock = some g → w.heap.size ≤ g ∧ g < W.heap.size ∧ lv.ownBlock ≠ some g := by
   by_cases hl : i < vs.length
   ·rw [List.getElem?_append_left hl] at hu
    rw [List.getElem?_append_left (by rw [← h.len]; exact hl)] at hq
    exact h.at' i u q hu hq
   ·have hl2 : i < (vs ++ [v]).length := (List.getElem?_eq_some_iff.1 hu).1
    rw [List.length_append] at hl2
    have hl3 : i = vs.length := by simp at hl2; omega
    subst hl3
    rw [List.getElem?_append_right (Nat.le_refl _)] at hu
    rw [h.len, List.getElem?_append_right (Nat.le_refl _)] at hq
    simp at hu hq
    subst hu
    subst hq
    exact ⟨hv, hvo⟩
  exact ⟨key.1.kept hk (fun g hg e => (key.2 g hg).2.2 e), fun g hg => ⟨(key.2 g hg).1, Nat.lt_of_lt_of_le (key.2 g hg).2.1 hk.size, hoff g (key.2 g hg).2.1 (key.2 g hg).2.2⟩⟩
 ·have := (h.row.lt q e).1
  omega
def Zfw (p : PG) (w : World) (e : Ending) (w' : World) : Prop :=
 Kept nF w w' ∧
 if Ya p = 0 then ∃ lv vs, e = .returned (.tuple #[lv, .int .i64 0]) ∧ CoK w w' lv vs p.fns
 else e = .returned (.tuple #[.slice none 0 0, .int .i64 (Ya p)])
theorem Zu7 (v : Value) (p : PG) (w : World) (B : Nat) (h : PgIs w B v p) (hB : B ≤ w.heap.size) (ho : p.Ok) :
  Calls Tryz.prog 45 #[v] w (Zfw p w) := by
 obtain ⟨dv, fv, rfl, hd, hdl, hf⟩ := h
 obtain ⟨dao, dc, rfl⟩ := hd.shape
 obtain ⟨fao, fc, rfl⟩ := hf.shape
 obtain ⟨nd, hnd⟩ := nmd (p.data.length)
 obtain ⟨nf, hnf⟩ := nmd (p.fns.length)
 obtain ⟨mem, hmem⟩ := nmd (p.mem)
 rw [← hnf] at hf
 rw [← hmem, ← hnd, ← hnf]
 have HF := Za hf
 have HO := Za ho
 have HNF := Za hnf
 have HBB := Za hB
 have hkA : Kept nF w (w.alloc (.cells #[.int .i64 mem, .slice dao nd dc, .slice fao nf fc] 26)) := (Kept.refl _ _).alloc _
 have hbA := heap_alloc_new w (.cells #[.int .i64 mem, .slice dao nd dc, .slice fao nf fc] 26)
 have c0 := Zb _ w.heap.size 0 _ _ _ hbA
 have c1 := Zb _ w.heap.size 1 _ _ _ hbA
 have c2 := Zb _ w.heap.size 2 _ _ _ hbA
 have HWM := Za (Zu6 mem dao nd dc fao nf fc (w.alloc (.cells #[.int .i64 mem, .slice dao nd dc, .slice fao nf fc] 26)) p hmem hnd hnf)
 have HKA := Za hkA
 have HBA := Za hbA
 have hfit : (64 : Int) < (nf : Int) → Zea p = true := fun h => by
  rcases Zfv p with ⟨_, hb⟩ | ⟨hb, _⟩
  ·exact hb
  ·omega
 clear hd hdl hf ho hnf hnd hmem hB hkA hbA
 go_enter Tryz.func45, Tryz.ntmps45
 go_wp2_with fail
 generalize w.alloc (.cells #[.int .i64 mem, .slice dao nd dc, .slice fao nf fc] 26) = w0 at *
 refine HWM.out.mono ?_
 rintro e w1 ⟨rfl, hk1⟩
 have HK1 := Za (HKA.out.trans hk1)
 have HB1 : Hid (w1.heap[w.heap.size]? = some (.cells #[.int .i64 mem, .slice dao nd dc, .slice fao nf fc] 26 (0, 0))) := (hk1.block _ (Array.getElem?_eq_some_iff.1 HBA.out).1 id).trans HBA.out
 obtain ⟨gb, hgb⟩ := nmd (w.heap.size)
 rw [← hgb] at HB1
 rw [← hgb]
 clear hk1 HWM HKA HBA c0 c1 c2 hgb
 cases hbp : Zea p with
 | true =>
  have HR : Hid (Zfw p w (.returned (.tuple #[.slice none 0 0, .int .i64 121])) w1) := ⟨HK1.out, by unfold Ya; rw [if_pos hbp, if_neg (by decide)]⟩
  clear hfit hbp
  go_wp2
  go_ret2
  exact HR.out
 | false =>
  have HC : Hid (Ya p = Za6 p.fns) := by unfold Hid Ya; rw [if_neg (by rw [hbp]; decide)]
  have hnf64 : nf ≤ 64 := by
   rcases Nat.lt_or_ge 64 nf with h | h
   ·have := hfit (by omega); rw [hbp] at this; cases this
   ·exact h
  clear hfit hbp
  have c2 := Zb _ gb 2 _ _ _ HB1.out
  have HC0 : Hid (CoK w w1 (.slice none 0 0) [] (p.fns.take 0)) := ⟨by simp, World.ownsRow_nil _ _ _ _, fun i v f hv => by simp at hv, HK1.out⟩
  go_wp2_with fail
  clear c2
  go_loopw [4, 15] (fun lv i wr => ∃ (k : Nat) (vs : List Value), k ≤ nf ∧ i = .int .i64 k ∧ vs.length = k ∧ Hid (CoK w wr lv vs (p.fns.take k)) ∧ Hid (∀ x ∈ p.fns.take k, Wk x = 0)) (fun _ i _ => nf - (intOf i).toNat)
  case atStart => exact ⟨0, [], by omega, rfl, rfl, HC0, (fun x hx => by simp at hx)⟩
  case round =>
   obtain ⟨k, vs, hk, rfl, hvl, HCK, HGO⟩ := hrel
   have HVL := Za hvl
   clear hvl
   by_cases hlt : k < nf
   ·have hltI : (k : Int) < (nf : Int) := by omega
    obtain ⟨g, o, f, e1, hgB, hfi, hfa⟩ := (HF.out.kept HCK.out.kept (fun _ _ f => f)).at (i := k) (by rw [← HNF.out]; exact hlt)
    subst e1
    obtain ⟨cao, cc, x0, x1, x2, x3, hri, hcl⟩ := Zbr hfa
    have hfo := HO.out.fns f (List.mem_of_getElem? hfi)
    obtain ⟨fa, hfa'⟩ := nmd (f.a)
    obtain ⟨fl, hfl'⟩ := nmd (f.l)
    obtain ⟨fr, hfr'⟩ := nmd (f.r)
    obtain ⟨nc, hnc⟩ := nmd (f.code.length)
    have hen := Znr (.slice cao nc cc) f.code
    have hncb := hfo.len
    rw [← hfa'] at x0
    rw [← hfl'] at x1
    rw [← hfr'] at x2
    rw [← hnc] at x3 hri hncb
    have hkB : Kept nF wr (wr.alloc (.cells #[.int .i64 fa, .int .i64 fl, .int .i64 fr, .slice cao nc cc] 78)) := (Kept.refl _ _).alloc _
    have hbB := heap_alloc_new wr (.cells #[.int .i64 fa, .int .i64 fl, .int .i64 fr, .slice cao nc cc] 78)
    have HHM := Za (Zwq fa fl fr cao nc cc (wr.alloc (.cells #[.int .i64 fa, .int .i64 fl, .int .i64 fr, .slice cao nc cc] 78)) f hfa' hfl' hfr' hnc)
    have HEN : Hid (∀ W, Kept nF (wr.alloc (.cells #[.int .i64 fa, .int .i64 fl, .int .i64 fr, .slice cao nc cc] 78)) W → Calls Tryz.prog 71 #[.slice cao nc cc] W (Zdf f.code W)) := fun W hW => hen W ((hri.kept hkB (fun _ _ f => f)).kept hW (fun _ _ f => f)) hfo.code (by rw [← hnc]; omega)
    have HKB := Za hkB
    have HBX := Za hbB
    have y0 := Zb _ wr.heap.size 0 _ _ _ hbB
    have y1 := Zb _ wr.heap.size 1 _ _ _ hbB
    have y2 := Zb _ wr.heap.size 2 _ _ _ hbB
    have y3 := Zb _ wr.heap.size 3 _ _ _ hbB
    have HFI := Za hfi
    clear hfa hri hcl hfo hfa' hfl' hfr' hnc hen hkB hbB hfi
    go_wp2_with fail
    refine HHM.out.mono ?_
    rintro e w5 ⟨rfl, hk5⟩
    have HK5 := Za hk5
    have HC5 := Za (HCK.out.same (HKB.out.trans hk5))
    have HB5 : Hid (w5.heap[wr.heap.size]? = some (.cells #[.int .i64 fa, .int .i64 fl, .int .i64 fr, .slice cao nc cc] 78 (0, 0))) := (hk5.block _ (Array.getElem?_eq_some_iff.1 HBX.out).1 id).trans HBX.out
    have HEN5 := Za (HEN.out w5 hk5)
    clear hk5 HHM HEN HBX y0 y1 y2 y3 x0 x1 x2 x3 HCK HKB HK5
    generalize wr.heap.size = gx at *
    have y3 := Zb _ gx 3 _ _ _ HB5.out
    cases hbf : Zh0 f with
    | true =>
     have he : Wk f = 121 := by unfold Wk; rw [if_pos hbf]
     have HR : Hid (Zfw p w (.returned (.tuple #[.slice none 0 0, .int .i64 121])) w5) := ⟨HC5.out.kept, by rw [HC.out, Zcs p.fns k f HGO.out HFI.out (by rw [he]; decide), he, if_neg (by decide)]⟩
     clear he hbf HEN5
     go_wp2
     go_ret2
     exact HR.out
    | false =>
     have he : Wk f = Xz f.code := by unfold Wk; rw [if_neg (by rw [hbf]; decide)]
     have HE := Za he
     clear he hbf
     go_wp2_with fail
     refine HEN5.out.mono ?_
     rintro e w6 ⟨hk6, he6⟩
     have HC6 := Za (HC5.out.same hk6)
     have HS6 : Hid (∀ q, u4.ownBlock = some q → q < w5.heap.size) := fun q hq => (HC5.out.row.lt q hq).2
     have HSW : Hid (w.heap.size ≤ w5.heap.size) := HC5.out.kept.size
     clear hk6 HEN5 HC5 HB5 y3
     by_cases hE : Xz f.code = 0
     ·rw [if_pos hE] at he6
      obtain ⟨v6, rfl, ho6⟩ := he6
      obtain ⟨bo, bc, hv6⟩ := Zd ho6
      obtain ⟨bl, hbl⟩ := nmd ((Xj f.code).length)
      rw [← hbl] at hv6
      subst hv6
      have HGO2 := Za (Zi0 HGO.out HFI.out (by rw [HE.out]; exact hE))
      obtain ⟨lv', w8, hr8, hC8⟩ := HC6.out.app f (.slice bo bl bc) (Zbc ho6) (fun g hg => ⟨Nat.le_trans HSW.out (ho6.lt g hg).1, (ho6.lt g hg).2, fun e => by have h1 := HS6.out g e; have h2 := (ho6.lt g hg).1; omega⟩) rfl (by rw [HVL.out]; omega)
      have htk : p.fns.take k ++ [f] = p.fns.take (k + 1) := by rw [List.take_add_one, HFI.out]; rfl
      rw [htk] at hC8
      have HR8 := Za hr8
      have HC8 := Za hC8
      have HVL2 : Hid ((vs ++ [Value.slice bo bl bc]).length = k + 1) := by unfold Hid; rw [List.length_append, HVL.out]; rfl
      clear ho6 hbl hE hr8 hC8 htk
      go_wp2_with (at_builtin; refine Zr rfl (.tmp 31) (.tmp 33) 114 114 rfl _ _ rfl rfl lv' w8 HR8.out ?_)
      go_roundw
      case rel => exact ⟨k + 1, _, by omega, by go_num, HVL2.out, HC8, HGO2⟩
      case measure => simp [intOf]; omega
     ·rw [if_neg hE] at he6
      subst he6
      have HR : Hid (Zfw p w (.returned (.tuple #[.slice none 0 0, .int .i64 (Xz f.code)])) w6) := ⟨HC6.out.kept, by rw [HC.out, Zcs p.fns k f HGO.out HFI.out (by rw [HE.out]; exact hE), HE.out, if_neg hE]⟩
      obtain ⟨ee, hee⟩ := nmd (Xz f.code)
      rw [← hee] at HR hE ⊢
      have hb : (ee == 0) = false := by simp; exact hE
      have hb2 : (ee != 0) = true := by simp; exact hE
      clear hee
      go_wp2
      go_ret2
      exact HR.out
   ·have hnl : ¬ ((k : Int) < (nf : Int)) := by omega
    have hta : p.fns.take k = p.fns := List.take_of_length_le (by rw [← HNF.out]; omega)
    have hck := HCK.out
    have hgo := HGO.out
    rw [hta] at hck hgo
    have HR : Hid (Zfw p w (.returned (.tuple #[u4, .int .i64 0])) wr) := ⟨hck.kept, by rw [HC.out, Zeb _ hgo, if_pos rfl]; exact ⟨_, vs, rfl, hck⟩⟩
    clear hta hck hgo
    go_wp2
    go_ret2
    exact HR.out
theorem Zmn (v : Value) (p : PG) (w : World) (B : Nat) (h : PgIs w B v p) (hB : B ≤ w.heap.size) (ho : p.Ok) :
  Calls Tryz.prog 28 #[v] w fun e w' => e = .returned (.int .i64 (Ya p)) ∧ Kept nF w w' := by
 have hpg := h
 obtain ⟨dv, fv, rfl, hd, hdl, hf⟩ := h
 obtain ⟨dao, dc, rfl⟩ := hd.shape
 obtain ⟨fao, fc, rfl⟩ := hf.shape
 obtain ⟨nd, hnd⟩ := nmd (p.data.length)
 obtain ⟨nf, hnf⟩ := nmd (p.fns.length)
 obtain ⟨mem, hmem⟩ := nmd (p.mem)
 rw [← hmem, ← hnd, ← hnf] at hpg ⊢
 obtain ⟨ee, hee⟩ := nmd (Ya p)
 have HEE := Za hee
 rw [← hee]
 clear hee
 have hkA : Kept nF w (w.alloc (.cells #[.int .i64 mem, .slice dao nd dc, .slice fao nf fc] 26)) := (Kept.refl _ _).alloc _
 have hbA := heap_alloc_new w (.cells #[.int .i64 mem, .slice dao nd dc, .slice fao nf fc] 26)
 have c0 := Zb _ w.heap.size 0 _ _ _ hbA
 have c1 := Zb _ w.heap.size 1 _ _ _ hbA
 have c2 := Zb _ w.heap.size 2 _ _ _ hbA
 have HCO := Za (Zu7 _ p _ B (hpg.kept hkA (fun _ _ f => f)) (Nat.le_trans hB hkA.size) ho)
 have HKA := Za hkA
 clear hd hdl hf ho hnf hnd hmem hB hkA hbA hpg
 go_enter Tryz.func28, Tryz.ntmps28
 go_wp2_with fail
 refine HCO.out.mono ?_
 rintro e w1 ⟨hk1, he⟩
 have HK1 := Za (HKA.out.trans hk1)
 clear HCO hk1 c0 c1 c2
 by_cases hck : Ya p = 0
 ·rw [if_pos hck] at he
  obtain ⟨lv, vs, rfl, hco⟩ := he
  obtain ⟨lo, lc, hlv⟩ := Zd hco.row
  subst hlv
  have h0 : ee = 0 := by rw [HEE.out]; exact hck
  subst h0
  clear hco hck HEE
  generalize vs.length = nv at *
  go_wp2
  go_ret
  exact ⟨rfl, HK1.out⟩
 ·rw [if_neg hck] at he
  subst he
  rw [← HEE.out]
  clear hck HEE
  go_wp2
  go_ret
  exact ⟨rfl, HK1.out⟩
end Go.Proofs.YtgoabnehdmdikaaGreatDoor
namespace Go.Proofs.YtgoabnehdmdikaaGreatDoor
open Go.RowKit
theorem Zmo : Tryz.prog.built 214 (Zg0 Zk) = some (Yi Zk).toArray := by kernel_rfl
theorem Zhe : (Tryz.prog.info? 214).map (·.size) = some (Yi Zk).toArray.size := by kernel_rfl
section
variable {ops : Array Oper} {o : Oper} {a : Act} {w : World} {Q : Exit → Act → World → Prop} {rest : List Oper}
theorem Zk4 (hg : o.guard = none) (parts : Array (Nat × Operand)) (ho : o.op = .build 214 parts) (e : (parts.map fun (i, x) => (i, a.eval x)).toList = Zg0 Zk)
  (h : wpList Tryz.prog ops Q rest (a.put o.dst (.agg (Yi Zk).toArray)) w) : wpList Tryz.prog ops Q (o :: rest) a w := by
 refine wpList_build hg 214 _ ho (by rw [e, Zmo]; rfl) ?_
 rw [e, Zmo]
 exact h
end
theorem Zmp (w : World) : Calls Tryz.prog 128 #[] w fun e w' => e = .returned (.agg (Yi Zk).toArray) ∧ Kept nF w w' := by
 obtain ⟨hO, hX, hK⟩ := Zap w z63 (Yi Zk).toArray 214
 go_enter Tryz.func128, Tryz.ntmps128
 go_wp2_with (first | refine Zbg rfl (some 0) rfl (.pointer (some ⟨w.heap.size, 0, none⟩)) (w.alloc (.cells z63 214)) (by kernel_rfl) ?_ | refine Zk4 rfl _ rfl (by kernel_rfl) ?_ | refine wpList_store_row rfl 214 _ _ rfl w.heap.size (Yi Zk).toArray rfl rfl 214 _ hO Zhe (by kernel_rfl) Zm6 ?_)
 refine bodyPost_ret (v := .agg (Yi Zk).toArray) ?_ rfl ⟨rfl, hK⟩
 exact results_cell_row (by rfl) _ _ w.heap.size 214 _ (0, 0) _ (by rfl) hX Tryz.underlying214 rfl Zhe
theorem Zmq (L : List Sh) (g t : Nat) (n : Int) (w : World) (hg : w.heap[g]? = some (.cells (Yi L).toArray t (0, 0))) (hn0 : -9223372036854775808 ≤ n) (hn1 : n < 9223372036854775808) (hL : L.length ≤ 46) :
  Calls Tryz.prog 127 #[.slice (some ⟨g, 0, none⟩) L.length L.length, .int .i64 n] w fun e w' => e = .returned (.tuple #[.agg (Yd L n).cells.toArray, .bool (Xb L n)]) ∧ Kept nF w w' := by
 by_cases h : 0 ≤ n ∧ n < (L.length : Int)
 ·obtain ⟨k, rfl⟩ : ∃ k : Nat, n = k := ⟨n.toNat, by omega⟩
  have hkl : k < L.length := by omega
  have hr : Hid (Yd L (k : Int) = L.getD k Sh.none ∧ Xb L (k : Int) = true) := by
   unfold Hid Yd Xb
   rw [if_pos h, decide_eq_true h]
   exact ⟨by simp, rfl⟩
  generalize hs : L.getD k Sh.none = s at *
  have hc : ∀ j v, s.cells[j]? = some v → w.cell? ⟨g, k * 4 + j, none⟩ = some v := fun j v hv => by
   have hj : j < 4 := by
    have := (List.getElem?_eq_some_iff.1 hv).1
    simpa [Sh.cells] using this
   rw [Zb _ _ _ _ _ _ hg]
   have := Zg2 L k j hkl hj
   rw [hs, hv] at this
   simpa using this
  have hrg : (w.alloc (.cells Sh.none.cells.toArray 186)).rangeAt g (k * 4) s.cells := fun j v hv => ((Kept.refl nF w).alloc _).cell (hc j v hv) id
  have hk0 : (0 : Int) ≤ (k : Int) := h.1
  have hk1 : (k : Int) < (L.length : Int) := h.2
  have hk2 : ¬ ((k : Int) < 0) := by omega
  obtain ⟨hO, hX, hK⟩ := Zap w (Sh.none.cells.toArray) s.cells.toArray 186
  clear hn0 hn1 hs hc h hg
  generalize L.length = N at *
  go_enter Tryz.func127, Tryz.ntmps127
  go_wp2_with (first | refine wpList_load_mid rfl 186 _ rfl g (k * 4) rfl s.cells _ hrg Tryz.underlying186 rfl Zcr ?_ | refine wpList_store_row rfl 186 _ _ rfl w.heap.size s.cells.toArray rfl rfl 186 _ hO Zcr rfl (Zj5 s) ?_)
  refine bodyPost_ret (v := .tuple #[.agg s.cells.toArray, .bool true]) ?_ rfl ⟨by rw [hr.out.1, hr.out.2], hK⟩
  exact Zh (by rfl) _ _ ⟨w.heap.size, 0, none⟩ _ _ (by rfl) (by rfl) (run_loadVar_row _ w.heap.size 186 186 _ (0, 0) _ hX Tryz.underlying186 rfl Zcr)
 ·have hr : Hid (Yd L n = Sh.none ∧ Xb L n = false) := by
   unfold Hid Yd Xb
   rw [if_neg h, decide_eq_false h]
   exact ⟨rfl, rfl⟩
  obtain ⟨hO, hX, hK⟩ := Zap w (Sh.none.cells.toArray) Sh.none.cells.toArray 186
  have hd : (decide (n < 0) || decide ((L.length : Int) ≤ n)) = true := by
   rw [Bool.or_eq_true, decide_eq_true_iff, decide_eq_true_iff]
   omega
  clear h hg
  generalize L.length = N at *
  have HX := Za (heap_alloc2_old w (.cells Sh.none.cells.toArray 186) (.cells Sh.none.cells.toArray 186))
  have HK := Za (((Kept.refl nF w).alloc (.cells Sh.none.cells.toArray 186)).alloc (.cells Sh.none.cells.toArray 186))
  clear hO hX hK
  go_enter Tryz.func127, Tryz.ntmps127
  go_wp2
  all_goals
   refine bodyPost_ret (v := .tuple #[.agg Sh.none.cells.toArray, .bool false]) ?_ rfl ⟨by rw [hr.out.1, hr.out.2], HK.out⟩
   exact Zh (by rfl) _ _ ⟨w.heap.size, 0, none⟩ _ _ (by rfl) (by rfl) (run_loadVar_row _ w.heap.size 186 186 _ (0, 0) _ HX.out Tryz.underlying186 rfl Zcr)
theorem Zk5 (n : Int) (w : World) (hn0 : -9223372036854775808 ≤ n) (hn1 : n < 9223372036854775808) :
  Calls Tryz.prog 100 #[.int .i64 n] w fun e w' => e = .returned (.tuple #[.agg (Yd Zj n).cells.toArray, .bool (Xb Zj n)]) ∧ Kept nF w w' := by
 have hB0 := heap_alloc_new w (.cells Sh.none.cells.toArray 186)
 have hK0 : Kept nF w (w.alloc (.cells Sh.none.cells.toArray 186)) := (Kept.refl _ _).alloc _
 go_enter Tryz.func100, Tryz.ntmps100
 go_wp2_with fail
 refine (Zhr _).mono ?_
 rintro e w1 ⟨rfl, hk1⟩
 have HB1 := Za (Zc hk1 hB0 id)
 have HK1 := Za (hK0.trans hk1)
 clear hB0 hk1 hK0
 obtain ⟨hO, hX, hK⟩ := Zap w1 z57 (Yi Zj).toArray 205
 go_upto_region 2 with (first | refine Zbg rfl (some 4) rfl (.pointer (some ⟨w1.heap.size, 0, none⟩)) (w1.alloc (.cells z57 205)) (by kernel_rfl) ?_ | refine wpList_store_row rfl 205 _ _ rfl w1.heap.size (Yi Zj).toArray rfl rfl 205 _ hO Zg1 (by kernel_rfl) Zm5 ?_)
 clear hO
 generalize (w1.alloc (.cells z57 205)).setRow w1.heap.size (Yi Zj).toArray = w2 at *
 have HB2 := Za (Zc hK HB1.out id)
 have HK2 := Za (HK1.out.trans hK)
 have HR := Za (Zmq Zj w1.heap.size 205 n w2 hX hn0 hn1 (by decide))
 clear hK HB1 HK1
 go_wp2_with fail
 refine HR.out.mono ?_
 rintro e w3 ⟨rfl, hk3⟩
 have HK3 := Za (HK2.out.trans hk3)
 have hB3 := Zc hk3 HB2.out id
 clear hk3 HR HB2 HK2 hX
 obtain ⟨s, hs⟩ : ∃ s, Yd Zj n = s := ⟨_, rfl⟩
 obtain ⟨b, hb⟩ : ∃ b, Xb Zj n = b := ⟨_, rfl⟩
 rw [hs, hb]
 have HS := Za hs
 have HB := Za hb
 clear hs hb
 have HX := Za (setRow_heap w3 w.heap.size _ s.cells.toArray 186 (0, 0) hB3)
 have HKX := Za (HK3.out.step (Zaq w3 w.heap.size s.cells.toArray) (fun i hi e => by omega))
 go_wp2_with (refine wpList_store_row rfl 186 _ _ rfl w.heap.size s.cells.toArray rfl rfl 186 _ hB3 Zcr rfl (Zj5 s) ?_)
 refine bodyPost_ret (v := .tuple #[.agg s.cells.toArray, .bool b]) ?_ rfl ⟨by rw [HS.out, HB.out], HKX.out⟩
 exact Zh (by rfl) _ _ ⟨w.heap.size, 0, none⟩ _ _ (by rfl) (by rfl) (run_loadVar_row _ w.heap.size 186 186 _ (0, 0) _ HX.out Tryz.underlying186 rfl Zcr)
theorem Zpy (n : Int) (w : World) (hn0 : -9223372036854775808 ≤ n) (hn1 : n < 9223372036854775808) :
  Calls Tryz.prog 101 #[.int .i64 n] w fun e w' => e = .returned (.tuple #[.agg (Yd Zk n).cells.toArray, .bool (Xb Zk n)]) ∧ Kept nF w w' := by
 have hB0 := heap_alloc_new w (.cells Sh.none.cells.toArray 186)
 have hK0 : Kept nF w (w.alloc (.cells Sh.none.cells.toArray 186)) := (Kept.refl _ _).alloc _
 go_enter Tryz.func101, Tryz.ntmps101
 go_wp2_with fail
 refine (Zmp _).mono ?_
 rintro e w1 ⟨rfl, hk1⟩
 have HB1 := Za (Zc hk1 hB0 id)
 have HK1 := Za (hK0.trans hk1)
 clear hB0 hk1 hK0
 obtain ⟨hO, hX, hK⟩ := Zap w1 z63 (Yi Zk).toArray 214
 go_upto_region 2 with (first | refine Zbg rfl (some 4) rfl (.pointer (some ⟨w1.heap.size, 0, none⟩)) (w1.alloc (.cells z63 214)) (by kernel_rfl) ?_ | refine wpList_store_row rfl 214 _ _ rfl w1.heap.size (Yi Zk).toArray rfl rfl 214 _ hO Zhe (by kernel_rfl) Zm6 ?_)
 clear hO
 generalize (w1.alloc (.cells z63 214)).setRow w1.heap.size (Yi Zk).toArray = w2 at *
 have HB2 := Za (Zc hK HB1.out id)
 have HK2 := Za (HK1.out.trans hK)
 have HR := Za (Zmq Zk w1.heap.size 214 n w2 hX hn0 hn1 (by decide))
 clear hK HB1 HK1
 go_wp2_with fail
 refine HR.out.mono ?_
 rintro e w3 ⟨rfl, hk3⟩
 have HK3 := Za (HK2.out.trans hk3)
 have hB3 := Zc hk3 HB2.out id
 clear hk3 HR HB2 HK2 hX
 obtain ⟨s, hs⟩ : ∃ s, Yd Zk n = s := ⟨_, rfl⟩
 obtain ⟨b, hb⟩ : ∃ b, Xb Zk n = b := ⟨_, rfl⟩
 rw [hs, hb]
 have HS := Za hs
 have HB := Za hb
 clear hs hb
 have HX := Za (setRow_heap w3 w.heap.size _ s.cells.toArray 186 (0, 0) hB3)
 have HKX := Za (HK3.out.step (Zaq w3 w.heap.size s.cells.toArray) (fun i hi e => by omega))
 go_wp2_with (refine wpList_store_row rfl 186 _ _ rfl w.heap.size s.cells.toArray rfl rfl 186 _ hB3 Zcr rfl (Zj5 s) ?_)
 refine bodyPost_ret (v := .tuple #[.agg s.cells.toArray, .bool b]) ?_ rfl ⟨by rw [HS.out, HB.out], HKX.out⟩
 exact Zh (by rfl) _ _ ⟨w.heap.size, 0, none⟩ _ _ (by rfl) (by rfl) (run_loadVar_row _ w.heap.size 186 186 _ (0, 0) _ HX.out Tryz.underlying186 rfl Zcr)
end Go.Proofs.YtgoabnehdmdikaaGreatDoor
namespace Go.Proofs.YtgoabnehdmdikaaGreatDoor
open Go.RowKit
def pk : Nat → List Bool → List Oper → Option (Oper × List Bool × Nat)
 | k + 1, b :: bs, _ :: os => match pk k bs os with | some (x, l, i) => some (x, b :: l, i + 1) | none => none
 | 0, true :: bs, _ :: os => match pk 0 bs os with | some (x, l, i) => some (x, true :: l, i + 1) | none => none
 | 0, false :: bs, o :: _ => some (o, true :: bs, 0)
 | _, _, _ => none
theorem Zh1 : ∀ (os : List Oper) (k : Nat) (bs : List Bool) (x : Oper) (l : List Bool) (i : Nat), pk k bs os = some (x, l, i) → os[i]? = some x ∧ l = bs.set i true
 | [], k, bs, x, l, i, h => by cases k <;> cases bs <;> simp [pk] at h
 | o :: os, k, [], x, l, i, h => by cases k <;> simp [pk] at h
 | o :: os, k + 1, b :: bs, x, l, i, h => by
  rw [pk] at h
  cases e : pk k bs os with
  | none => rw [e] at h; cases h
  | some y =>
   obtain ⟨y, m, j⟩ := y
   rw [e] at h
   cases h
   obtain ⟨h1, h2⟩ := Zh1 os k bs _ _ _ e
   exact ⟨by simpa using h1, by rw [h2]; rfl⟩
 | o :: os, 0, true :: bs, x, l, i, h => by
  rw [pk] at h
  cases e : pk 0 bs os with
  | none => rw [e] at h; cases h
  | some y =>
   obtain ⟨y, m, j⟩ := y
   rw [e] at h
   cases h
   obtain ⟨h1, h2⟩ := Zh1 os 0 bs _ _ _ e
   exact ⟨by simpa using h1, by rw [h2]; rfl⟩
 | o :: os, 0, false :: bs, x, l, i, h => by
  rw [pk] at h
  cases h
  exact ⟨rfl, rfl⟩
theorem Ztf {ops : Array Oper} {listed : Array Bool} {k i : Nat} {x : Oper} {l : List Bool} (h : pk k listed.toList ops.toList = some (x, l, i)) : ops[i]? = some x ∧ listed.setIfInBounds i true = l.toArray := by
 obtain ⟨h1, h2⟩ := Zh1 _ _ _ _ _ _ h
 refine ⟨by rw [← Array.getElem?_toList]; exact h1, ?_⟩
 apply Array.ext'
 rw [Array.toList_setIfInBounds, h2]
theorem tkn {P : Program} {ops : Array Oper} {Q : Exit → Act → World → Prop} {md : Region.Mode} {S : World → Prop} {oi : Oper} {v : Value} {fuel i : Nat} {listed : Array Bool} {bs : List Bool} {a : Act} {w : World} (k : Nat) (hi : pk k listed.toList ops.toList = some (oi, bs, i)) (hy : ∀ w : World, S w → Sem.run P (execOp a.eval oi) w = Result.ok (Next.value v) w) (h : wpAnyH P md ops Q S fuel bs.toArray (a.put oi.dst v) w)
  (hs : Region.noSelect ops = true := by kernel_rfl) (hf : Region.free md ops listed i = true := by kernel_rfl) (hr : (Region.ready md ops listed).contains i = true := by kernel_rfl) (hQ : ∀ c a w, Q (.panic c) (a.put oi.dst v) w → Q (.panic c) a w := by exact fun _ _ _ h => h) (hw : Region.wanted oi (yielded ops a.tmps) = true := by rfl) (hS : S w := by assumption) : wpAnyH P md ops Q S (fuel + 1) listed a w :=
 wpAnyH_take (Ztf hi).1 hs hf hr hQ (Or.inl ⟨hw, hy⟩) hS (by rw [(Ztf hi).2]; exact h)
theorem rdy {P : Program} {md : Region.Mode} {ops : Array Oper} {Q : Exit → Act → World → Prop} {S : World → Prop} {fuel : Nat} {listed : Array Bool} {a : Act} {w : World} (i : Nat) {o : Oper} (ho : ops[i]? = some o) (h : ∀ K' : Act → World → Prop, Shut (∀ a w, S w → (S w → wpAnyH P md ops Q S fuel (listed.setIfInBounds i true) a w) → K' a w) → if Region.wanted o (yielded ops a.tmps) = true then Oper.wp P o a w K' Q else K' (a.put o.dst undef) w) (hr : Region.ready md ops listed = [i] := by kernel_rfl) : wpAnyH P md ops Q S (fuel + 1) listed a w := wpAnyH_ready hr (by simp) (AllReadyH.cons ho h AllReadyH.nil)
theorem tdy : (∀ {α : Type} {xs : List α} {i : Nat} (h : i < xs.toArray.size), xs.toArray[i] = xs[i]'(by simpa using h)) ∧ (∀ {α : Type} (l : List α) (i : Nat) (a : α), l.toArray.setIfInBounds i a = (l.set i a).toArray) ∧ (∀ {α : Type} {a : α} {t : List α} (h : 0 < (a :: t).length), (a :: t)[0] = a) ∧ (∀ {α : Type} {a : α} {t : List α} {i : Nat} (h : i + 1 < (a :: t).length), (a :: t)[i + 1] = t[i]'(by simpa using h)) ∧ (∀ {α : Type} {a b : α} {t : List α}, (a :: t).set 0 b = b :: t) ∧ (∀ {α : Type} {a b : α} {t : List α} {n : Nat}, (a :: t).set (n + 1) b = a :: t.set n b) :=
 ⟨fun _ => rfl, fun _ _ _ => by simp, fun _ => rfl, fun _ => rfl, rfl, rfl⟩
theorem Zs {w : World} {base e s : Nat} {v : Value} {n : Nat} {xs : List Value} (h : w.ownsRow base e s v n xs) {B t : Nat} {cs : Array Value} (hb : w.heap[B]? = some (.cells cs t (0, 0))) (hne : t ≠ e) : v.ownBlock ≠ some B := fun hq => by
 rcases h.2 with ⟨rfl, _⟩ | ⟨g, cap, cur, rfl, _, hgg, _⟩
 ·cases hq
 ·simp [Value.ownBlock] at hq
  subst hq
  rw [hb] at hgg
  simp at hgg
  exact hne hgg.2
theorem Zh2 {w : World} {b e s b' e' s' : Nat} {v v' : Value} {n n' : Nat} {xs xs' : List Value} (h : w.ownsRow b e s v n xs) (h' : w.ownsRow b' e' s' v' n' xs') (hne : e ≠ e') : ∀ q, v.ownBlock = some q → v'.ownBlock ≠ some q := fun q hq hq' => by
 rcases h.2 with ⟨rfl, _⟩ | ⟨g, cap, cur, rfl, _, hgg, _⟩
 ·cases hq
 ·simp [Value.ownBlock] at hq
  subst hq
  exact Zs h' hgg hne hq'
theorem Zmr (w : World) (c1 : Array Value) (t1 : TypeId) (c2 : Array Value) (t2 : TypeId) (W : World) (hW : W = (w.alloc (.cells c1 t1)).alloc (.cells c2 t2)) :
  Kept nF w W ∧ W.heap[w.heap.size]? = some (.cells c1 t1 (0, 0)) ∧ W.heap[w.heap.size + 1]? = some (.cells c2 t2 (0, 0)) := by
 subst hW
 refine ⟨((Kept.refl _ _).alloc _).alloc _, ?_, ?_⟩
 ·rw [heap_alloc_old _ _ (by simp)]; exact heap_alloc_new w _
 ·exact (by simp : (w.alloc (.cells c1 t1)).heap.size = w.heap.size + 1) ▸ heap_alloc_new _ _
theorem Zx {w : World} {g : Nat} {t : TypeId} {a b c : Value} (h : w.heap[g]? = some (.cells #[a, b, c] t (0, 0))) : w.cell? ⟨g, 0, none⟩ = some a ∧ w.cell? ⟨g, 1, none⟩ = some b ∧ w.cell? ⟨g, 2, none⟩ = some c ∧ w.frozen? ⟨g, 0, none⟩ = false ∧ w.frozen? ⟨g, 1, none⟩ = false ∧ w.frozen? ⟨g, 2, none⟩ = false :=
 ⟨Zb _ _ 0 _ _ _ h, Zb _ _ 1 _ _ _ h, Zb _ _ 2 _ _ _ h, Ze _ _ 0 _ _ h, Ze _ _ 1 _ _ h, Ze _ _ 2 _ _ h⟩
theorem Zec (w : World) (g : Nat) (t : TypeId) (a0 a1 a2 a3 x0 x1 x2 x3 : Value) (h : w.heap[g]? = some (.cells #[a0, a1, a2, a3] t (0, 0))) :
  ((((w.setCell ⟨g, 0, none⟩ x0).setCell ⟨g, 1, none⟩ x1).setCell ⟨g, 2, none⟩ x2).setCell ⟨g, 3, none⟩ x3).heap[g]? = some (.cells #[x0, x1, x2, x3] t (0, 0)) ∧ Kept (fun k => k = g) w ((((w.setCell ⟨g, 0, none⟩ x0).setCell ⟨g, 1, none⟩ x1).setCell ⟨g, 2, none⟩ x2).setCell ⟨g, 3, none⟩ x3) := by
 have h1 := Zf _ _ 0 _ _ _ h x0
 have h2 := Zf _ _ 1 _ _ _ h1 x1
 have h3 := Zf _ _ 2 _ _ _ h2 x2
 have h4 := Zf _ _ 3 _ _ _ h3 x3
 exact ⟨h4, (((Zg w g 0 x0).trans (Zg _ g 1 x1)).trans (Zg _ g 2 x2)).trans (Zg _ g 3 x3)⟩
theorem Zct (w : World) (g : Nat) (t : TypeId) (a0 a1 a2 x0 x1 x2 : Value) (h : w.heap[g]? = some (.cells #[a0, a1, a2] t (0, 0))) :
  (((w.setCell ⟨g, 0, none⟩ x0).setCell ⟨g, 1, none⟩ x1).setCell ⟨g, 2, none⟩ x2).heap[g]? = some (.cells #[x0, x1, x2] t (0, 0)) ∧ Kept (fun k => k = g) w (((w.setCell ⟨g, 0, none⟩ x0).setCell ⟨g, 1, none⟩ x1).setCell ⟨g, 2, none⟩ x2) := by
 have h1 := Zf _ _ 0 _ _ _ h x0
 have h2 := Zf _ _ 1 _ _ _ h1 x1
 have h3 := Zf _ _ 2 _ _ _ h2 x2
 exact ⟨h3, ((Zg w g 0 x0).trans (Zg _ g 1 x1)).trans (Zg _ g 2 x2)⟩
theorem Zm {P : Program} {w : World} {ops : Array Oper} {o : Oper} {a : Act} {K : Act → World → Prop} {Q : Exit → Act → World → Prop} {E : Prop} (hg : o.guard = none) (s x : Operand) (t u : TypeId)
  (ho : o.op = .call { callee := .builtin .append, args := #[s, x], argTypes := #[t, u] }) (v bv : Value) (hs : a.eval s = v) (hx : a.eval x = bv) (v' : Value) (w' : World)
  (hr : (Builtin.append_ #[t, u] o.type #[v, bv]).run P w = .ok v' w') (h : K (a.put o.dst v') w') :
  if Region.wanted o (yielded ops a.tmps) = true then Oper.wp P o a w K Q else E := by
 have hw : Region.wanted o (yielded ops a.tmps) = true := by simp [Region.wanted, hg]
 rw [if_pos hw]
 unfold Oper.wp
 simp [execOp, ho, resolve, invoke, builtin, hs, hx, hr, Result.andThen]
 exact h
section
variable {P : Program} {ops : Array Oper} {o : Oper} {a : Act} {w : World} {K : Act → World → Prop} {Q : Exit → Act → World → Prop} {E : Prop}
theorem Zfe (hgd : o.guard = none) (ty : TypeId) (x y : Operand) (ho : o.op = .store ty x y)
  (g : Nat) (cells : Array Value) (hx : a.eval x = .pointer (some ⟨g, 0, none⟩)) (hy : a.eval y = .agg cells)
  (t : TypeId) (old : Array Value) (hg : w.heap[g]? = some (.cells old t (0, 0))) (hi : (P.info? ty).map (·.size) = some cells.size)
  (hold : old.size = cells.size) (h1 : cells.all (·.oneCell') = true)
  (h : K (a.put o.dst undef) (w.setRow g cells)) : if Region.wanted o (yielded ops a.tmps) = true then Oper.wp P o a w K Q else E := by
 have hw : Region.wanted o (yielded ops a.tmps) = true := by simp [Region.wanted, hgd]
 rw [if_pos hw]
 exact wp_store_row ty x y ho g cells hx hy t old hg hi hold h1 h
end
theorem Yk {w : World} {g : Nat} {t : TypeId} {a b c d : Value} (h : w.heap[g]? = some (.cells #[a, b, c, d] t (0, 0))) : w.cell? ⟨g, 0, none⟩ = some a ∧ w.cell? ⟨g, 1, none⟩ = some b ∧ w.cell? ⟨g, 2, none⟩ = some c ∧ w.cell? ⟨g, 3, none⟩ = some d ∧ w.frozen? ⟨g, 0, none⟩ = false ∧ w.frozen? ⟨g, 1, none⟩ = false ∧ w.frozen? ⟨g, 2, none⟩ = false ∧ w.frozen? ⟨g, 3, none⟩ = false :=
 ⟨Zb _ _ 0 _ _ _ h, Zb _ _ 1 _ _ _ h, Zb _ _ 2 _ _ _ h, Zb _ _ 3 _ _ _ h, Ze _ _ 0 _ _ h, Ze _ _ 1 _ _ h, Ze _ _ 2 _ _ h, Ze _ _ 3 _ _ h⟩
end Go.Proofs.YtgoabnehdmdikaaGreatDoor
namespace Go.Proofs
open Go.Shelf Go.RowKit Go.Deep Go.ChangeShapes
shelf_lay Lays.n103 Nm 103 at Tryz as Tryz.lays103
theorem Tryz.strings_CutPrefix (s p : ByteArray) (w : World) :
  Calls Tryz.prog 137 #[.string s, .string p] w fun e w' => e = .returned (.tuple #[.string ⟨(Lib.trimPrefix s.data.toList p.data.toList).toArray⟩, .bool (Lib.hasPrefix s.data.toList p.data.toList)]) ∧ w' = w := Any.strings_CutPrefix Tryz.lays103 s p w
shelf_lay LaysM.n171 Nm 171 at Tryz as Tryz.laysM171
shelf_lay LaysC.n174 Nm 174 at Tryz as Tryz.laysC174
theorem Tryz.strconv_ParseInt_10_at64_ok (s : ByteArray) (hmax : s.size ≤ 9223372036854775806) (v : Int) (h : Lib.parseIntB 64 s.data.toList = .ok v) (w : World) :
  Calls Tryz.prog 140 #[.string s, .int .i64 10, .int .i64 64] w fun e w' => e = .returned (.tuple #[.int .i64 v, .nilIface]) ∧ (w' = w ∨ ∃ t, w' = Lib.bytesWorld w 5 t) := Any.strconv_ParseInt_10_at64_ok Tryz.laysC174 s hmax v h w
shelf_lay LaysM.n176 Nm 176 at Tryz as Tryz.laysM176
theorem Tryz.strconv_AppendInt_10 (B n : Nat) (i : Int) (h0 : -9223372036854775808 ≤ i) (h1 : i ≤ 9223372036854775807) (sv : Value) (xs : List Value) (w : World) (hown : w.ownsRow B 5 1 sv n xs) (hBw : B ≤ w.heap.size) (hlim : n + 21 ≤ 140737488355328) (htab : Lib.TabBelow Tryz.prog B w "internal/strconv.uint64pow10" .u64 Lib.pow10Tab) :
  Calls Tryz.prog 72 #[sv, .int .i64 i, .int .i64 10] w fun e w' => ∃ v', e = .returned v' ∧ w'.ownsRow B 5 1 v' (n + (Lib.itoa i).length) (xs ++ Lib.byteCells (Lib.itoa i)) ∧ Below B w w' ∧ Lib.OthersKept 5 none w w' := Any.strconv_AppendInt_10 Tryz.laysM176 B n i h0 h1 sv xs w hown hBw hlim htab
shelf_lay Lays.n101 Nm 101 at Tryz as Tryz.lays101
theorem Tryz.strings_TrimPrefix (s p : ByteArray) (w : World) :
  Calls Tryz.prog 142 #[.string s, .string p] w fun e w' => e = .returned (.string ⟨(Lib.trimPrefix s.data.toList p.data.toList).toArray⟩) ∧ w' = w := Any.strings_TrimPrefix Tryz.lays101 s p w
shelf_lay Lays.n146 Nm 146 at Tryz as Tryz.lays146
theorem Tryz.strings_Split (s sep : ByteArray) (m : Int) (w : World) (hs : s.size < 4294967281) (hm : w.cell? ⟨0, 0, none⟩ = some (.int .i64 m)) (h1 : 1 ≤ sep.size) :
  Calls Tryz.prog 37 #[.string s, .string sep] w fun e w' =>
   e = .returned (.slice (some ⟨w.heap.size, 0, none⟩) (Lib.countB s sep + 1) (Lib.countB s sep + 1)) ∧ w' = w.alloc (.cells ((Lib.splitB sep 0 (Lib.countB s sep) s).map Value.string).toArray 9) := Any.strings_Split Tryz.lays146 (by kernel_rfl) s sep m w hs hm h1
shelf_lay Lays.n227 Nm 227 at Tryz as Tryz.lays227
shelf_lay Lays.n228 Nm 228 at Tryz as Tryz.lays228
end Go.Proofs
namespace Go.Proofs.YtgoabnehdmdikaaGreatDoor
open Go.RowKit
end Go.Proofs.YtgoabnehdmdikaaGreatDoor

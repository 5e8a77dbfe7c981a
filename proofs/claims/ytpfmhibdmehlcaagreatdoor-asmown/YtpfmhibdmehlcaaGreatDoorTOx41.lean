import Derived.Test.YtpfmhibdmehlcaaGreatDoorTOx8
import Derived.Test.YtpfmhibdmehlcaaGreatDoorRows
import Derived.ProofKit
import Derived.LaidMore
import Derived.Lay
import Derived.OpenShut
import Derived.Stop.Joined
import Derived.Stop.LaidErr
import Derived.HandedShaped
import Derived.Shelf.Vars
import Derived.Test.YtpfmhibdmehlcaaGreatDoorTOx13
import Derived.Stop.LaidTwo
import Derived.Test.YtpfmhibdmehlcaaGreatDoorTOx4
import Derived.Deep.Strs
import Derived.ChangeSlices
import Derived.SizedLaws
import Derived.Lib.SmallJoins
namespace Go.Proofs.YtpfmhibdmehlcaaGreatDoor
open Go.ChangeShapes Go.WideShapes Go.ChangeAt Go.WideMaps Go.WideElems Go.RowKit
set_option linter.unusedVariables false
set_option linter.unusedSimpArgs false
set_option maxRecDepth 100000
theorem handed_and_shaped {H : Type} {enc : TypeId × Value → H} {a : Assume} {C : Checked} {os : Os} {f : FuncId} {fn : Func} {s : ChangeSpec} {conds : List PathCond} {apart fresh handsOn again : Bool} {X : World → Array Value → Prop}
  (hX : ∀ (w w' : World) (args : Array Value), w.heap = w'.heap → X w args → X w' args)
  (own : ownKnob C.prog.godebug = none) (started : os.Started) (noInit : C.prog.inits.idxOf? f = none) (hfn : C.prog.funcs[f]? = some fn)
  (witness : ∃ (w : World) (tape : Tape) (i : Input), w.os = os ∧ (w.forCall tape i).Shaped C.prog ∧ i.vars = [] ∧ Input.okWide C.prog (w.forCall tape i) .any w.heap.size f i ∧
   ((s.pre enc C.prog fn conds apart (w.forCall tape i).memory i.args ∧ X (w.forCall tape i).memory i.args) ∧ sizedMet enc C.prog fn (OpenSpec.ofChange s) apart (w.forCall tape i).memory i.args) ∧ a.holds C.prog (lone (Frame.enter C.prog f i.args .normal) [] (w.forCall tape i)))
  (contract : ∀ (W : World) (base : Nat) (args : Array Value) (ds gs : List (DataW H)) (before : List MemPlace),
   (∀ (j : Nat) t v, fn.params[j]? = some t → args[j]? = some v → Value.okWide C.prog W .any base t v) →
   DataW.Whole enc C.prog fn.params.toList s.vars apart W args.toList ds gs before → (DataW.weightsEach C.prog (fn.params.toList ++ s.plain.varTypes C.prog) (ds ++ gs)).all (· ≤ reachBytes) = true → X W args → W.ShapedOpen C.prog →
   Calls C.prog f args W fun e W' => ∃ v, e = .returned v ∧ s.post enc C.prog fn apart fresh handsOn again W args v W') :
  ReturnsInHanded a C os f .any (fun w args => (s.pre enc C.prog fn conds apart w args ∧ X w args) ∧ sizedMet enc C.prog fn (OpenSpec.ofChange s) apart w args) (s.post enc C.prog fn apart fresh handsOn again) := by
 refine returnsInHanded_of_calls own started noInit witness ?_
 intro w tape i _ hsh _ hok hpre hholds
 obtain ⟨_, _, _, fn2, hfn2, _, _, _, _, hval⟩ := hok
 obtain rfl : fn2 = fn := Option.some.inj (hfn2.symm.trans hfn)
 obtain ⟨⟨⟨ds, gs, before, hw, _⟩, hx⟩, hz⟩ := hpre
 refine (contract (w.forCall tape i) w.heap.size i.args ds gs before hval (DataW.Whole.of_heap (w' := w.forCall tape i) (by rfl) hw) (hz.weights hw) (hX _ _ _ (by rfl) hx) hsh).mono fun e W' ⟨v, he, hp⟩ => ?_
 subst he
 exact ChangeSpec.post_blind hp
theorem gP : Tryz.prog.globalNamed "internal/strconv.uint64pow10" = some 2 := by kernel_rfl
theorem tP : (Tryz.prog.globals[2]?).map (·.type) = some 213 := by kernel_rfl
theorem gE : Tryz.prog.globalNamed "strconv.ErrRange" = some 1 := by kernel_rfl
theorem tE : (Tryz.prog.globals[1]?).map (·.type) = some 32 := by kernel_rfl
def laidT : List (String × DataW Unit) := Rows.asmBackRow.laid
theorem laid_p : (Rows.laid_internal_strconv_uint64pow10 : DataW Unit) = Lib.tabData .u64 Lib.pow10Tab := by kernel_rfl
theorem starE : "*" ++ "errors.errorString" = "*errors.errorString" := by decide
theorem rowE (u : TypeId) (h : Tryz.prog.typeName? 3 u = some "*errors.errorString") : u = 267 :=
 typeName_ptr_named (nm := "errors.errorString") (by rw [starE]; kernel_rfl) (by kernel_rfl) (by decide) u (by rw [starE]; exact h)
theorem u293 : ∃ f, Tryz.prog.underlying 269 = some (.struct #[f]) ∧ f.type = 9 ∧ f.offset = 0 := by
 have h1 : (match Tryz.prog.underlying 269 with | some (.struct fs) => (fs.size, (fs[0]?).map fun f => (f.type, f.offset)) | _ => (0, none)) = (1, some (9, 0)) := by kernel_rfl
 split at h1
 ·next fs h =>
  obtain ⟨e1, e2⟩ := Prod.mk.inj h1
  obtain ⟨l⟩ := fs
  match l, e1, e2, h with
  | [f], _, e2, h => simp at e2; exact ⟨f, h, e2.1, e2.2⟩
 ·simp at h1
theorem begun13 : (((begin Tryz.prog (fun _ _ => 0) default).world.heap[7]?).bind Obj.row?).isSome = true := by kernel_rfl
theorem lo13 {W : World} (h : W.ShapedOpen Tryz.prog) : 8 ≤ W.heap.size := by
 obtain ⟨⟨z, t⟩, hz⟩ := Option.isSome_iff_exists.1 begun13
 obtain ⟨cs, hc, _⟩ := h.1 7 z t (of_decide_eq_true (by kernel_rfl)) hz
 exact (Array.getElem?_eq_some_iff.1 hc).1
theorem gl_of {W : World} (h : laidMetH Tryz.prog laidT W) (hsh : W.ShapedOpen Tryz.prog) : Gl W := by
 rw [laidT, MakeChecks.laidMetH_plain _ _ _ (by kernel_rfl)] at h
 have h2 : laidMet Tryz.prog _ W := h.tail.tail
 rw [laid_p] at h2
 have htab : Lib.TabIs Tryz.prog W "internal/strconv.uint64pow10" .u64 Lib.pow10Tab := Lib.tabIs_of_head gP tP (n := 20) (e := 115) (by kernel_rfl) (by kernel_rfl) (by kernel_rfl) (by kernel_rfl) h2
 obtain ⟨f, hf, hft, hfo⟩ := u293
 obtain ⟨a, s, hv, _⟩ := laid_sentinel h.tail.tail.tail.tail gE tE (ms := Tryz.prog.methodsAt 32) (tp := 267) (te := 269) (by kernel_rfl) rowE (by kernel_rfl) hf hft hfo (by kernel_rfl) (by kernel_rfl) (by kernel_rfl)
 refine ⟨htab, cell_of_shapedOpen_int hsh (g := 0) (t := 3) (zero := #[.int .i64 0]) (of_decide_eq_true (by kernel_rfl)) (by kernel_rfl) rfl (by kernel_rfl) (by kernel_rfl) (by kernel_rfl), ⟨267, _, by simpa using World.var?_cell gE hv 0⟩, lo13 hsh⟩
theorem own : ownKnob Tryz.prog.godebug = none := by kernel_rfl
theorem laid_met (os : Os) (args : Array Value) : laidMetH Tryz.prog laidT ((World.laidAll Tryz.prog os laidT).forCall (fun _ _ => 0) ⟨#[], args, []⟩).memory := by
 rw [MakeChecks.laidMetH_plain _ _ _ (by kernel_rfl)]
 exact laidMet_laidAll _ (by kernel_rfl) (by kernel_rfl)
theorem gS : Tryz.prog.globalNamed "strconv.ErrSyntax" = some 7 := by kernel_rfl
theorem tS : (Tryz.prog.globals[7]?).map (·.type) = some 32 := by kernel_rfl
theorem gs_of {W : World} (h : laidMetH Tryz.prog laidT W) (hsh : W.ShapedOpen Tryz.prog) : Gs W := by
 have hg := gl_of h hsh
 rw [laidT, MakeChecks.laidMetH_plain _ _ _ (by kernel_rfl)] at h
 obtain ⟨f, hf, hft, hfo⟩ := u293
 obtain ⟨a0, a1, s0, s1, c0, c1, t0, t1, hv0, hv1, -, -, -, -, -, -, -, hb0, hb1⟩ := laid_sentinels2 h.tail.tail.tail.tail gE tE gS tS (ms := Tryz.prog.methodsAt 32) (tp := 267) (te := 269) (by kernel_rfl) rowE (by kernel_rfl) hf hft hfo (by kernel_rfl) (by kernel_rfl) (by kernel_rfl)
 exact ⟨hg, a0, a1, c0, c1, t0, t1, by simpa using World.var?_cell gE hv0 0, by simpa using World.var?_cell gS hv1 0, hb0, hb1⟩
end Go.Proofs.YtpfmhibdmehlcaaGreatDoor
namespace Go.Proofs.YtpfmhibdmehlcaaGreatDoor
open Go.ChangeShapes Go.WideShapes Go.ChangeAt Go.WideMaps Go.WideElems Go.RowKit Go.Deep
set_option linter.unusedVariables false
set_option linter.unusedSimpArgs false
set_option maxRecDepth 100000
theorem bytes5 : Tryz.prog.bytesOf 5 = 1 := by kernel_rfl
theorem slice_lt {t e : TypeId} (ht : Tryz.prog.underlying t = some (.slice e)) {W : World} {base : Nat} {ao : Option Addr} {len cap : Nat} (h : Value.okWide Tryz.prog W .any base t (.slice ao len cap)) : ∀ g, (Value.slice ao len cap).ownBlock = some g → g < W.heap.size := by
 intro g hg
 cases ao with
 | none => simp [Value.ownBlock] at hg
 | some a =>
  simp only [Value.okWide, ht, Cell.okWide, Cell.ok] at h
  obtain ⟨_, _, _, _, row, cells, hs, _⟩ := h
  have e : a.block = g := by simpa [Value.ownBlock] using hg
  rw [← e]
  rcases Nat.lt_or_ge a.block W.heap.size with hlt | hge
  ·exact hlt
  ·simp [World.shape?, Array.getElem?_eq_none hge] at hs
theorem cells3' : Tryz.prog.cellsOf 3 = 1 := by kernel_rfl
theorem cells64 : Tryz.prog.cellsOf 48 = 2 := by kernel_rfl
section
variable {H : Type} {enc : TypeId × Value → H} {W : World} {base : Nat} {spare : Nat → Bool} {held : Bool}
theorem open_in {fuel : Nat} {cs : List Value} {x : DataW H × List MemPlace} (h : DataW.trod enc Tryz.prog W base spare held fuel 48 cs = some x) : ∃ y : IN, cs = y.cells ∧ y.Ok := by
 obtain ⟨ys, n, _, _, hl, hlen, hf⟩ := DataW.trod_struct Tryz.underlying48 h
 rw [cells64] at hl
 match ys, hlen with
 | [y0, y1], _ =>
  have g0 : DataW.trod enc Tryz.prog W base spare held n 3 ((cs.drop 0).take 1) = some y0 := by simpa [cells3'] using hf 0 _ rfl
  have g1 : DataW.trod enc Tryz.prog W base spare held n 3 ((cs.drop 1).take 1) = some y1 := by simpa [cells3'] using hf 1 _ rfl
  obtain ⟨k0, e0, _, w0⟩ := DataW.trod_int Tryz.underlying3 g0
  obtain ⟨k1, e1, _, w1⟩ := DataW.trod_int Tryz.underlying3 g1
  have b0 := bounds_i64 w0
  have b1 := bounds_i64 w1
  refine ⟨⟨k0, k1⟩, ?_, ⟨⟨b0.1, show k0 < 9223372036854775808 by omega⟩, b1.1, show k1 < 9223372036854775808 by omega⟩⟩
  have q : cs = (cs.drop 0).take 1 ++ (cs.drop 1).take 1 := by
   apply List.ext_getElem?
   intro i
   simp only [List.getElem?_append, List.length_take, List.length_drop, List.getElem?_take, List.getElem?_drop, hl]
   repeat' split
   all_goals (first | (congr 1; omega) | (rw [List.getElem?_eq_none (by omega)]) | omega)
  rw [e0, e1] at q
  rw [q]
  rfl
theorem open_ins {fuel : Nat} {v : Value} {x : DataW H × List MemPlace} (h : DataW.trod enc Tryz.prog W base spare held fuel 49 [v] = some x) : ∃ ys : List IN, RowI W v ys ∧ (∀ y ∈ ys, y.Ok) ∧ ys.length ≤ 9223372036854775807 := by
 rcases open_slice Tryz.underlying49 h with ⟨hcs, _⟩ | ⟨a, len, cap, m, n, D, Pl, hcs, hb, hl, hm, hm', _, hel⟩
 ·cases hcs
  exact ⟨[], .inl ⟨rfl, none, 0, rfl⟩, by simp, by simp⟩
 ·cases hcs
  by_cases h0 : len = 0
  ·exact ⟨[], .inl ⟨rfl, some a, cap, by rw [h0]⟩, by simp, by simp⟩
  ·have hlm : len ≤ m := by rw [hm']; split <;> omega
   rw [cells64] at hel
   have hin : Inhabited IN := ⟨⟨0, 0⟩⟩
   obtain ⟨f, hf⟩ := choose_lt (n := len) (p := fun i (y : IN) => W.cells? base (a.add (i * 2)) 2 = some y.cells ∧ y.Ok) (fun i hi => by
    obtain ⟨cs', h1, h2⟩ := hel i (by omega)
    obtain ⟨y, rfl, h3⟩ := open_in h2
    exact ⟨y, h1, h3⟩)
   have hcell : ∀ i, i < len → ∀ j, j < 2 → W.cell? ((a.add (i * 2)).add j) = (f i).cells[j]? := fun i hi => (World.cells?_some (hf i hi).1).2.2
   obtain ⟨b, off, spot⟩ := a
   have hc0 : W.cell? (((⟨b, off, spot⟩ : Addr).add (0 * 2)).add 0) = some (.int .i64 (f 0).op) := hcell 0 (by omega) 0 (by omega)
   have hspot : spot = none := by simpa [Addr.add] using World.cell?_spot hc0
   subst hspot
   refine ⟨(List.range len).map f, .inr ⟨b, off, cap, by simp, fun i y hy j u hj => ?_⟩, fun y hy => ?_, by simp; unfold maxLen at hm; omega⟩
   ·have hi : i < len := by
     have := (List.getElem?_eq_some_iff.1 hy).1
     simpa using this
    obtain rfl : f i = y := by simpa [hi] using hy
    have hj2 : j < 2 := by
     have := (List.getElem?_eq_some_iff.1 hj).1
     simpa [IN.cells] using this
    have := hcell i hi j hj2
    rw [Addr.add_lit, Addr.add_lit] at this
    rw [this, hj]
   ·obtain ⟨i, hi, rfl⟩ := List.mem_map.1 hy
    exact (hf i (List.mem_range.1 hi)).2
end
def Fits {H : Type} (t : TypeId) (d : DataW H) : Prop := ∀ n ∈ d.weights Tryz.prog t, n ≤ reachBytes
theorem weights_all {H : Type} {e : TypeId} : ∀ {l : List (DataW H)} {d : DataW H}, d ∈ l → ∀ n ∈ d.weights Tryz.prog e, n ∈ DataW.weightsAll Tryz.prog e l
 | d' :: r, d, hd, n, hn => by
  simp only [DataW.weightsAll, List.mem_append]
  rcases List.mem_cons.1 hd with rfl | h
  ·exact Or.inl hn
  ·exact Or.inr (weights_all h n hn)
theorem cells22 : Tryz.prog.cellsOf 22 = 1 := by kernel_rfl
theorem cells23 : Tryz.prog.cellsOf 23 = 1 := by kernel_rfl
theorem cells54 : Tryz.prog.cellsOf 49 = 1 := by kernel_rfl
theorem cells56 : Tryz.prog.cellsOf 51 = 4 := by kernel_rfl
theorem cellsPG : Tryz.prog.cellsOf 25 = 3 := by kernel_rfl
theorem cellsBy : Tryz.prog.cellsOf 5 = 1 := by kernel_rfl
theorem bytes64 : Tryz.prog.bytesOf 48 = 16 := by kernel_rfl
theorem bytes56 : Tryz.prog.bytesOf 51 = 48 := by kernel_rfl
section
variable {H : Type} {enc : TypeId × Value → H} {W : World}
theorem open_code {fuel : Nat} {v : Value} {d : DataW H} {p : List MemPlace} (h : DataW.trod enc Tryz.prog W 0 (fun _ => true) true fuel 49 [v] = some (d, p)) (hb : Fits 49 d) :
  ∃ ys : List IN, RowI W v ys ∧ (∀ y ∈ ys, y.Ok) ∧ ys.length * 16 ≤ 140737488351232 ∧ ∀ q, v.ownBlock = some q → 0 < ys.length → q < W.heap.size := by
 obtain ⟨ys, h1, h2, _⟩ := open_ins h
 refine ⟨ys, h1, h2, ?_, fun q hq h0 => ?_⟩
 ·obtain ⟨ao, c, rfl⟩ := h1.shape
  rcases open_slice Tryz.underlying49 h with ⟨hcs, _⟩ | ⟨a, len, cap, m, n, D, Pl, hcs, _, hl, _, _, hx, _⟩
  ·have e := hcs
   simp only [List.cons.injEq, Value.slice.injEq, and_true] at e
   rw [e.2.1]; omega
  ·simp only [List.cons.injEq, Value.slice.injEq, and_true] at hcs
   simp only [Prod.mk.injEq] at hx
   obtain ⟨rfl, _⟩ := hx
   have hb1 := hb (((List.range len).map D).length + ((List.range (m - len)).map fun j => D (len + j)).length |>.mul (Tryz.prog.bytesOf 48)) (by simp [DataW.weights, Tryz.underlying49])
   rw [bytes64] at hb1
   simp only [List.length_map, List.length_range, reachBytes] at hb1
   have e := hcs.2.1
   have hb2 : (len + (m - len)) * 16 ≤ 140737488351232 := hb1
   rw [e]
   omega
 ·rcases h1 with ⟨e, _⟩ | ⟨g, o, c, rfl, hc⟩
  ·rw [e] at h0; simp at h0
  ·have e : g = q := Option.some.inj hq
   subst e
   have hcell := hc 0 _ (List.getElem?_eq_getElem h0) 0 _ rfl
   exact World.block_lt_of_cell? W _ hcell
theorem open_fn {fuel : Nat} {cs : List Value} {d : DataW H} {p : List MemPlace} (h : DataW.trod enc Tryz.prog W 0 (fun _ => true) true fuel 51 cs = some (d, p)) (hbk : Fits 51 d) :
  ∃ (f : FN) (cv : Value), cs = f.cells cv ∧ RowI W cv f.code ∧ (∀ q, cv.ownBlock = some q → 0 < f.code.length → q < W.heap.size) ∧ f.Ok := by
 obtain ⟨y0, y1, y2, y3, n, hx, hl, h0, h1, h2, h3⟩ := Go.Joins.trod_struct4 Tryz.underlying51 h
 rw [cells56] at hl
 match cs, hl with
 | [c0, c1, c2, c3], _ =>
  have g0 : DataW.trod enc Tryz.prog W 0 (fun _ => true) true n 3 [c0] = some y0 := by simpa [cells3'] using h0
  have g1 : DataW.trod enc Tryz.prog W 0 (fun _ => true) true n 3 [c1] = some y1 := by simpa [cells3'] using h1
  have g2 : DataW.trod enc Tryz.prog W 0 (fun _ => true) true n 3 [c2] = some y2 := by simpa [cells3'] using h2
  have g3 : DataW.trod enc Tryz.prog W 0 (fun _ => true) true n 49 [c3] = some y3 := by simpa [cells54] using h3
  obtain ⟨k, ek, _, wk⟩ := DataW.trod_int Tryz.underlying3 g0
  obtain ⟨m, em, _, wm⟩ := DataW.trod_int Tryz.underlying3 g1
  obtain ⟨o, eo, _, wo⟩ := DataW.trod_int Tryz.underlying3 g2
  simp only [Prod.mk.injEq] at hx
  have hb3 : Fits 49 y3.1 := fun n hn => by
   have h4 := hx.1
   subst h4
   refine hbk n ?_
   simp only [DataW.weights, Tryz.underlying51, List.map_cons, List.map_nil, DataW.weightsEach, List.mem_append]
   exact Or.inr (Or.inr (Or.inr (Or.inl hn)))
  obtain ⟨ys, q1, q2, q3, q4⟩ := open_code (d := y3.1) (p := y3.2) g3 hb3
  cases ek
  cases em
  cases eo
  have b0 := bounds_i64 wk
  have b1 := bounds_i64 wm
  have b2 := bounds_i64 wo
  exact ⟨⟨k, m, o, ys⟩, c3, rfl, q1, q4, ⟨⟨b0.1, by dsimp only; omega⟩, ⟨b1.1, by dsimp only; omega⟩, ⟨b2.1, by dsimp only; omega⟩, q2, q3⟩⟩
theorem open_fns {fuel : Nat} {v : Value} {d : DataW H} {p : List MemPlace} (h : DataW.trod enc Tryz.prog W 0 (fun _ => true) true fuel 23 [v] = some (d, p)) (hbk : Fits 23 d) :
  ∃ fs : List FN, RowF W W.heap.size v fs ∧ (∀ f ∈ fs, f.Ok) ∧ fs.length * 48 ≤ 140737488351232 := by
 rcases open_slice Tryz.underlying23 h with ⟨hcs, _⟩ | ⟨a, len, cap, m, n, D, Pl, hcs, hb, hl, hm, hm', hx, hel⟩
 ·cases hcs
  exact ⟨[], .inl ⟨rfl, none, 0, rfl⟩, fun f hf => by simp at hf, by simp⟩
 ·cases hcs
  simp only [if_true] at hm'
  simp only [Prod.mk.injEq] at hx
  obtain ⟨hx1, _⟩ := hx
  have hD : ∀ i, i < len → Fits 51 (D i) := fun i hi n hn => by
   subst hx1
   refine hbk n ?_
   simp only [DataW.weights, Tryz.underlying23, List.mem_cons, List.mem_append]
   exact Or.inr (Or.inl (weights_all (List.mem_map.2 ⟨i, List.mem_range.2 hi, rfl⟩) n hn))
  have hsz : len * 48 ≤ 140737488351232 := by
   subst hx1
   have hb1 := hbk (((List.range len).map D).length + ((List.range (m - len)).map fun j => D (len + j)).length |>.mul (Tryz.prog.bytesOf 51)) (by simp [DataW.weights, Tryz.underlying23])
   rw [bytes56] at hb1
   simp only [List.length_map, List.length_range, reachBytes] at hb1
   have hb2 : (len + (m - len)) * 48 ≤ 140737488351232 := hb1
   omega
  rw [cells56] at hel
  by_cases h0 : len = 0
  ·exact ⟨[], .inl ⟨rfl, some a, cap, by rw [h0]⟩, fun f hf => by simp at hf, by simp⟩
  ·have hin : Inhabited (FN × Value) := ⟨⟨⟨0, 0, 0, []⟩, .slice none 0 0⟩⟩
   obtain ⟨F, hF⟩ := choose_lt (n := len) (p := fun i (y : FN × Value) => W.cells? 0 (a.add (i * 4)) 4 = some (y.1.cells y.2) ∧ RowI W y.2 y.1.code ∧ (∀ q, y.2.ownBlock = some q → 0 < y.1.code.length → q < W.heap.size) ∧ y.1.Ok) (fun i hi => by
    obtain ⟨cs', h1, h2⟩ := hel i (by omega)
    obtain ⟨f, cv, rfl, h3, h4, h5⟩ := open_fn h2 (hD i hi)
    exact ⟨(f, cv), h1, h3, h4, h5⟩)
   have hcell : ∀ i, i < len → ∀ j, j < 4 → W.cell? ((a.add (i * 4)).add j) = ((F i).1.cells (F i).2)[j]? := fun i hi => (World.cells?_some (hF i hi).1).2.2
   obtain ⟨b, off, spot⟩ := a
   have hc0 : W.cell? (((⟨b, off, spot⟩ : Addr).add (0 * 4)).add 0) = some (.int .i64 (F 0).1.a) := hcell 0 (by omega) 0 (by omega)
   have hspot : spot = none := by simpa [Addr.add] using World.cell?_spot hc0
   subst hspot
   have hlen : ((List.range len).map fun i => (F i).1).length = len := by simp
   have hbl : b < W.heap.size := World.block_lt_of_cell? W _ hc0
   refine ⟨(List.range len).map fun i => (F i).1, .inr ⟨b, off, cap, by rw [hlen], hbl, fun i f hf => ?_⟩, fun f hf => ?_, by rw [hlen]; exact hsz⟩
   ·have hi : i < len := by
     have := (List.getElem?_eq_some_iff.1 hf).1
     simpa using this
    obtain rfl : (F i).1 = f := by simpa [hi] using hf
    obtain ⟨_, q1, q2, _⟩ := hF i hi
    refine ⟨(F i).2, fun j u hj => ?_, q1, q2⟩
    have hj4 : j < 4 := by
     have := (List.getElem?_eq_some_iff.1 hj).1
     simpa [FN.cells] using this
    have := hcell i hi j hj4
    rw [Addr.add_lit, Addr.add_lit] at this
    rw [this, hj]
   ·obtain ⟨i, hi, rfl⟩ := List.mem_map.1 hf
    exact (hF i (List.mem_range.1 hi)).2.2.2
theorem open_dat {fuel : Nat} {v : Value} {d : DataW H} {p : List MemPlace} (h : DataW.trod enc Tryz.prog W 0 (fun _ => true) true fuel 22 [v] = some (d, p)) (hbk : Fits 22 d) :
  ∃ xs : List Int, IsB W v xs ∧ BytesOk xs := by
 rcases open_ints Tryz.underlying22 Tryz.underlying5 cellsBy h with ⟨hcs, _⟩ | ⟨a, len, cap, zs, hcs, _, hl, hm, hz, hx, hcell, hwz⟩
 ·cases hcs
  exact ⟨[], .inl ⟨rfl, _, _, rfl⟩, ⟨fun y hy => (by cases hy), Nat.zero_le _⟩⟩
 ·cases hcs
  simp only [Prod.mk.injEq] at hx
  obtain ⟨rfl, rfl⟩ := hx
  simp only [if_true] at hz
  have hlen : (zs.take len).length = len := by rw [List.length_take]; omega
  have hb1 := hbk (((lits (H := H) .u8 (zs.take len)).length + (lits (H := H) .u8 (zs.drop len)).length) * Tryz.prog.bytesOf 5) (by simp [DataW.weights, Tryz.underlying22])
  rw [bytes5] at hb1
  have hlen2 : len ≤ 140737488351232 := by
   simp only [lits, List.length_map, hlen, reachBytes] at hb1
   omega
  refine ⟨zs.take len, ?_, ⟨fun y hy => ?_, by rw [hlen]; exact hlen2⟩⟩
  ·by_cases h0 : len = 0
   ·subst h0
    exact .inl ⟨by simp, _, _, rfl⟩
   ·obtain ⟨b, off, spot⟩ := a
    have hc := hcell 0 (by omega)
    have hspot : spot = none := by simpa [Addr.add] using World.cell?_spot hc
    subst hspot
    refine .inr ⟨b, off, cap, by rw [hlen], fun i hi => ?_⟩
    rw [hlen] at hi
    have := hcell i (by omega)
    rw [Addr.add_lit] at this
    rw [this]
    simp [List.getD, hi]
  ·have := hwz y (List.mem_of_mem_take hy)
   have := bounds_u8 this
   omega
theorem open_pg {base : Nat} {v : Value} {d : DataW H} {p : List MemPlace} (hval : Value.okWide Tryz.prog W .any base 25 v) (h : DataW.Trod enc Tryz.prog W 0 (fun _ => true) true 25 v d p) (hbk : Fits 25 d) :
  ∃ P : PG, PgIs W W.heap.size v P ∧ P.Ok := by
 obtain ⟨cs, rfl, hsz, hrow⟩ : ∃ cs, v = .agg cs ∧ cs.size = Tryz.prog.cellsOf 25 ∧ Row.okWide Tryz.prog W .any base 25 cs := by
  simpa [Value.okWide, Tryz.underlying25] using hval
 obtain ⟨fuel, hf⟩ := h
 have hf' : DataW.trod enc Tryz.prog W 0 (fun _ => true) true fuel 25 cs.toList = some (d, p) := hf
 obtain ⟨y0, y1, y2, n, hx, hl, h0, h1, h2⟩ := trod_struct3 Tryz.underlying25 hf'
 rw [cellsPG] at hl hsz
 obtain ⟨l⟩ := cs
 match l, hl with
 | [c0, c1, c2], _ =>
  have g0 : DataW.trod enc Tryz.prog W 0 (fun _ => true) true n 3 [c0] = some y0 := by simpa [cells3'] using h0
  have g1 : DataW.trod enc Tryz.prog W 0 (fun _ => true) true n 22 [c1] = some y1 := by simpa [cells22] using h1
  have g2 : DataW.trod enc Tryz.prog W 0 (fun _ => true) true n 23 [c2] = some y2 := by simpa [cells23] using h2
  obtain ⟨k, ek, _, wk⟩ := DataW.trod_int Tryz.underlying3 g0
  cases ek
  simp only [Prod.mk.injEq] at hx
  have hb1 : Fits 22 y1.1 := fun n hn => by
   have h4 := hx.1
   subst h4
   refine hbk n ?_
   simp only [DataW.weights, Tryz.underlying25, List.map_cons, List.map_nil, DataW.weightsEach, List.mem_append]
   exact Or.inr (Or.inl hn)
  have hb2 : Fits 23 y2.1 := fun n hn => by
   have h4 := hx.1
   subst h4
   refine hbk n ?_
   simp only [DataW.weights, Tryz.underlying25, List.map_cons, List.map_nil, DataW.weightsEach, List.mem_append]
   exact Or.inr (Or.inr (Or.inl hn))
  obtain ⟨xs, q1, q2⟩ := open_dat (d := y1.1) (p := y1.2) g1 hb1
  obtain ⟨fs, r1, r2, r3⟩ := open_fns (d := y2.1) (p := y2.2) g2 hb2
  have b0 := bounds_i64 wk
  have hlt : ∀ q, c1.ownBlock = some q → q < W.heap.size := by
   obtain ⟨ts, hts, _, hall⟩ := hrow
   have e : Tryz.prog.cellTypes Tryz.prog.depth 25 = some [3, 22, 23] := by kernel_rfl
   rw [e] at hts
   cases hts
   obtain ⟨u, hu, hok⟩ := hall 1 c1 rfl
   simp at hu
   subst hu
   obtain ⟨ao, c, rfl⟩ := q1.shape
   exact slice_lt Tryz.underlying22 (by simpa [Value.okWide, Tryz.underlying22] using hok)
  exact ⟨⟨k, xs, fs⟩, ⟨c1, c2, rfl, q1, hlt, r1⟩, ⟨⟨b0.1, by dsimp only; omega⟩, q2, r2, r3⟩⟩
end
theorem fits_arg {H : Type} {ts : List TypeId} {ds : List (DataW H)} (hsz : (DataW.weightsEach Tryz.prog ts ds).all (· ≤ reachBytes) = true) {j : Nat} {t : TypeId} {d : DataW H} (ht : ts[j]? = some t) (hd : ds[j]? = some d) : Fits t d := by
 induction ts generalizing j ds with
 | nil => simp at ht
 | cons t0 ts ih =>
  cases ds with
  | nil => simp at hd
  | cons d0 ds =>
   rw [DataW.weightsEach, List.all_append, Bool.and_eq_true] at hsz
   cases j with
   | zero =>
    simp at ht hd
    subst ht
    subst hd
    intro n hn
    have := List.all_eq_true.1 hsz.1 n hn
    simpa using this
   | succ j => exact ih hsz.2 (j := j) (by simpa using ht) (by simpa using hd)
end Go.Proofs.YtpfmhibdmehlcaaGreatDoor

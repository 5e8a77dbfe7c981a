import Derived.Test.YtgoabnehdmdikaaGreatDoorTLg6
import Derived.Test.YtgoabnehdmdikaaGreatDoorRows
import Derived.ProofKit
import Derived.LaidMore
import Derived.Lay
import Derived.OpenShut
import Derived.Stop.Joined
import Derived.Stop.LaidErr
import Derived.HandedShaped
import Derived.Shelf.Vars
import Derived.Test.YtgoabnehdmdikaaGreatDoorTLg9
import Derived.Stop.LaidTwo
import Derived.Test.YtgoabnehdmdikaaGreatDoorTLg4
import Derived.Deep.Strs
import Derived.ChangeSlices
import Derived.SizedLaws
import Derived.Lib.SmallJoins
set_option linter.unusedVariables false
set_option linter.unusedSimpArgs false
set_option maxRecDepth 100000
set_option maxHeartbeats 64000000
namespace Go.Proofs.YtgoabnehdmdikaaGreatDoor
open Go.ChangeShapes Go.WideShapes Go.ChangeAt Go.WideMaps Go.WideElems Go.RowKit
theorem Zge {H : Type} {enc : TypeId × Value → H} {a : Assume} {C : Checked} {os : Os} {f : FuncId} {fn : Func} {s : ChangeSpec} {conds : List PathCond} {apart fresh handsOn again : Bool} {X : World → Array Value → Prop}
  (hX : ∀ (w w' : World) (args : Array Value), w.heap = w'.heap → X w args → X w' args)
  (own : ownKnob C.prog.godebug = none) (started : os.Started) (noInit : C.prog.inits.idxOf? f = none) (hfn : C.prog.funcs[f]? = some fn)
  (witness : ∃ (w : World) (tape : Tape) (i : Input), w.os = os ∧ (w.forCall tape i).Shaped C.prog ∧ i.vars = [] ∧ Input.okWide C.prog (w.forCall tape i) .any w.heap.size f i ∧
   ((s.pre enc C.prog fn conds apart (w.forCall tape i).memory i.args ∧ X (w.forCall tape i).memory i.args) ∧ sizedMet enc C.prog fn (OpenSpec.ofChange s) apart (w.forCall tape i).memory i.args) ∧ a.holds C.prog (lone (Frame.enter C.prog f i.args .normal) [] (w.forCall tape i)))
  (contract : ∀ (W : World) (base : Nat) (args : Array Value) (ds gs : List (DataW H)) (before : List MemPlace),
   (∀ (j : Nat) t v, fn.params[j]? = some t → args[j]? = some v → Value.okWide C.prog W .any base t v) →
   DataW.Whole enc C.prog fn.params.toList s.vars apart W args.toList ds gs before → (DataW.weightsEach C.prog (fn.params.toList ++ s.plain.varTypes C.prog) (ds ++ gs)).all (· ≤ reachBytes) = true → X W args → W.ShapedOpen C.prog →
   Calls C.prog f args W fun e W' => ∃ v, e = .returned v ∧ s.post enc C.prog fn apart fresh handsOn again W args v W') :
  ReturnsInHanded a C os f .any (fun w args => (s.pre enc C.prog fn conds apart w args ∧ X w args) ∧ sizedMet enc C.prog fn (OpenSpec.ofChange s) apart w args) (s.post enc C.prog fn apart fresh handsOn again) := by
 refine returnsInHanded_of_calls own started noInit witness ?_
 intro w tape i _ hsh _ hok hpre hholds
 obtain ⟨_, _, _, fn2, hfn2, _, _, _, _, hval⟩ := hok
 obtain rfl : fn2 = fn := Option.some.inj (hfn2.symm.trans hfn)
 obtain ⟨⟨⟨ds, gs, before, hw, _⟩, hx⟩, hz⟩ := hpre
 refine (contract (w.forCall tape i) w.heap.size i.args ds gs before hval (DataW.Whole.of_heap (w' := w.forCall tape i) (by rfl) hw) (hz.weights hw) (hX _ _ _ (by rfl) hx) hsh).mono fun e W' ⟨v, he, hp⟩ => ?_
 subst he
 exact ChangeSpec.post_blind hp
theorem gP : Tryz.prog.globalNamed "internal/strconv.uint64pow10" = some 4 := by kernel_rfl
theorem tP : (Tryz.prog.globals[4]?).map (·.type) = some 250 := by kernel_rfl
theorem gE : Tryz.prog.globalNamed "strconv.ErrRange" = some 1 := by kernel_rfl
theorem tE : (Tryz.prog.globals[1]?).map (·.type) = some 28 := by kernel_rfl
def Zc4 : List (String × DataW Unit) := Rows.asmPrintsRow.laid
theorem Zwn : (Rows.laid_internal_strconv_uint64pow10 : DataW Unit) = Lib.tabData .u64 Lib.pow10Tab := by kernel_rfl
theorem Zte : "*" ++ "errors.errorString" = "*errors.errorString" := by decide
theorem Zwo (u : TypeId) (h : Tryz.prog.typeName? 3 u = some "*errors.errorString") : u = 291 :=
 typeName_ptr_named (nm := "errors.errorString") (by rw [Zte]; kernel_rfl) (by kernel_rfl) (by decide) u (by rw [Zte]; exact h)
theorem Zwp : ∃ f, Tryz.prog.underlying 293 = some (.struct #[f]) ∧ f.type = 9 ∧ f.offset = 0 := by
 have h1 : (match Tryz.prog.underlying 293 with | some (.struct fs) => (fs.size, (fs[0]?).map fun f => (f.type, f.offset)) | _ => (0, none)) = (1, some (9, 0)) := by kernel_rfl
 split at h1
 ·next fs h =>
  obtain ⟨e1, e2⟩ := Prod.mk.inj h1
  obtain ⟨l⟩ := fs
  match l, e1, e2, h with
  | [f], _, e2, h => simp at e2; exact ⟨f, h, e2.1, e2.2⟩
 ·simp at h1
theorem Zu5 : (((begin Tryz.prog (fun _ _ => 0) default).world.heap[7]?).bind Obj.row?).isSome = true := by kernel_rfl
theorem Zx6 {W : World} (h : W.ShapedOpen Tryz.prog) : 8 ≤ W.heap.size := by
 obtain ⟨⟨z, t⟩, hz⟩ := Option.isSome_iff_exists.1 Zu5
 obtain ⟨cs, hc, _⟩ := h.1 7 z t (of_decide_eq_true (by kernel_rfl)) hz
 exact (Array.getElem?_eq_some_iff.1 hc).1
theorem Zxd {W : World} (h : laidMetH Tryz.prog Zc4 W) (hsh : W.ShapedOpen Tryz.prog) : Gl W := by
 rw [Zc4, MakeChecks.laidMetH_plain _ _ _ (by kernel_rfl)] at h
 have h2 : laidMet Tryz.prog _ W := h.tail.tail
 rw [Zwn] at h2
 have htab : Lib.TabIs Tryz.prog W "internal/strconv.uint64pow10" .u64 Lib.pow10Tab := Lib.tabIs_of_head gP tP (n := 20) (e := 120) (by kernel_rfl) (by kernel_rfl) (by kernel_rfl) (by kernel_rfl) h2
 obtain ⟨f, hf, hft, hfo⟩ := Zwp
 obtain ⟨a, s, hv, _⟩ := laid_sentinel h.tail.tail.tail.tail gE tE (ms := Tryz.prog.methodsAt 28) (tp := 291) (te := 293) (by kernel_rfl) Zwo (by kernel_rfl) hf hft hfo (by kernel_rfl) (by kernel_rfl) (by kernel_rfl)
 refine ⟨htab, cell_of_shapedOpen_int hsh (g := 0) (t := 3) (zero := #[.int .i64 0]) (of_decide_eq_true (by kernel_rfl)) (by kernel_rfl) rfl (by kernel_rfl) (by kernel_rfl) (by kernel_rfl), ⟨291, _, by simpa using World.var?_cell gE hv 0⟩, Zx6 hsh⟩
theorem own : ownKnob Tryz.prog.godebug = none := by kernel_rfl
theorem Zsi (os : Os) (args : Array Value) : laidMetH Tryz.prog Zc4 ((World.laidAll Tryz.prog os Zc4).forCall (fun _ _ => 0) ⟨#[], args, []⟩).memory := by
 rw [MakeChecks.laidMetH_plain _ _ _ (by kernel_rfl)]
 exact laidMet_laidAll _ (by kernel_rfl) (by kernel_rfl)
theorem gS : Tryz.prog.globalNamed "strconv.ErrSyntax" = some 5 := by kernel_rfl
theorem tS : (Tryz.prog.globals[5]?).map (·.type) = some 28 := by kernel_rfl
theorem Zxe {W : World} (h : laidMetH Tryz.prog Zc4 W) (hsh : W.ShapedOpen Tryz.prog) : Gs W := by
 have hg := Zxd h hsh
 rw [Zc4, MakeChecks.laidMetH_plain _ _ _ (by kernel_rfl)] at h
 obtain ⟨f, hf, hft, hfo⟩ := Zwp
 obtain ⟨a0, a1, s0, s1, c0, c1, t0, t1, hv0, hv1, -, -, -, -, -, -, -, hb0, hb1⟩ := laid_sentinels2 h.tail.tail.tail.tail gE tE gS tS (ms := Tryz.prog.methodsAt 28) (tp := 291) (te := 293) (by kernel_rfl) Zwo (by kernel_rfl) hf hft hfo (by kernel_rfl) (by kernel_rfl) (by kernel_rfl)
 exact ⟨hg, a0, a1, c0, c1, t0, t1, by simpa using World.var?_cell gE hv0 0, by simpa using World.var?_cell gS hv1 0, hb0, hb1⟩
end Go.Proofs.YtgoabnehdmdikaaGreatDoor
namespace Go.Proofs.YtgoabnehdmdikaaGreatDoor
open Go.ChangeShapes Go.WideShapes Go.ChangeAt Go.WideMaps Go.WideElems Go.RowKit Go.Deep
section
variable {H : Type} {enc : TypeId × Value → H} {W : World} {base : Nat} {spare : Nat → Bool} {held : Bool}
end
def Fits {H : Type} (t : TypeId) (d : DataW H) : Prop := ∀ n ∈ d.weights Tryz.prog t, n ≤ reachBytes
section
variable {H : Type} {enc : TypeId × Value → H} {W : World}
end
theorem Zsj {H : Type} {ts : List TypeId} {ds : List (DataW H)} (hsz : (DataW.weightsEach Tryz.prog ts ds).all (· ≤ reachBytes) = true) {j : Nat} {t : TypeId} {d : DataW H} (ht : ts[j]? = some t) (hd : ds[j]? = some d) : Fits t d := by
 induction ts generalizing j ds with
 | nil => simp at ht
 | cons t0 ts ih =>
  cases ds with
  | nil => simp at hd
  | cons d0 ds =>
   rw [DataW.weightsEach, List.all_append, Bool.and_eq_true] at hsz
   cases j with
   | zero =>
    simp at ht hd
    subst ht
    subst hd
    intro n hn
    have := List.all_eq_true.1 hsz.1 n hn
    simpa using this
   | succ j => exact ih hsz.2 (j := j) (by simpa using ht) (by simpa using hd)
end Go.Proofs.YtgoabnehdmdikaaGreatDoor

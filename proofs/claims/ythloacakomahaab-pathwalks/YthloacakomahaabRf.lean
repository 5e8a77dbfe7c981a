/-
  A range over a function whose variable is assigned plainly; what PathWalks holds in memory.
-/
import Derived.Test.YthloacakomahaabLists
namespace Go.Proofs.Ythloacakomahaab
open Go.RowKit Go.Shelf
set_option linter.unusedVariables false
set_option linter.unusedSimpArgs false

theorem rangeH {F : Fence} {n : Nat} {P : Program} {α : Type} {g : Operand} {ps : Array Tmp} {assign body : Code} {Q : Exit → Act → World → Prop} {a : Act} {w : World}
    (hro : F.round = none) (h1 : 1 ≤ n) {gf : Nat} {lb : Array Value} (hg : a.eval g = .func (.func gf) #[] lb) (hFg : F.fn gf) (eg : ∀ args w, (callFunc gf args).run P w = .ok (.enter gf args) w)
    {encs : α → Array Value} {S Sp : List α → Prop} {N : Nat} {w0 : World} (hseq : SeqStopsK F (n - 1) P gf lb encs (fun _ _ => True) S Sp N w0) (hb0 : Below w0.heap.size w0 w) (hps : ∀ x, (encs x).size = ps.size)
    (I : List α → World → Prop) (Ix : Code → List α → World → Prop) (hI : OwnFrom w.heap.size I) (hIx : ∀ c, OwnFrom w.heap.size (Ix c)) (h0 : I [] w) (d : Tmp) (v : α → Value)
    (hassign : ∀ (l : Nat) (x : α) (W : World) (K : Act → World → Prop), K { tmps := ((ps.zip (encs x)).foldl (fun t (p, v) => t.setIfInBounds p v) a.tmps).setIfInBounds d (v x), defers := [] } W →
      assign.wpIn (F.inRound l) (n - 1 - 1) P (Exit.then K (fun _ _ _ => False)) { tmps := (ps.zip (encs x)).foldl (fun t (p, v) => t.setIfInBounds p v) a.tmps, defers := [] } W)
    (hbody : ∀ (l : Nat) (pre : List α) (x : α) (W : World), w.heap.size ≤ l → (∃ r, W.heap[l]? = some (.loop r)) → I pre W → pre.length < N → body.wpIn (F.inRound l) (n - 1 - 1) P (ownPostG w.heap.size (fun _ _ => True) I Ix (pre ++ [x]) W) { tmps := ((ps.zip (encs x)).foldl (fun t (p, v) => t.setIfInBounds p v) a.tmps).setIfInBounds d (v x), defers := [] } W)
    (hdone : ∀ (D : Nat) (xs : List α) (W : World), w.heap.size ≤ D → S xs → I xs W → W.heap[D]? = some (.deferred (some [])) → Q .normal { a with defers := { target := .collected D, args := #[] } :: a.defers } W)
    (hstop : ∀ (D : Nat) (c : Code) (pre : List α) (W : World), w.heap.size ≤ D → Sp pre → Ix c pre W → W.heap[D]? = some (.deferred (some [])) → c.wpIn F n P Q { a with defers := { target := .collected D, args := #[] } :: a.defers } W) :
    (Code.rangeFunc g ps assign body).wpIn F n P Q a w :=
  wpIn_rangeFunc_ownH hro h1 hg hFg eg hseq (fun _ _ => trivial) (fun _ _ _ _ _ _ _ _ => trivial) hb0 hps I Ix hI hIx h0
    (fun x a' _ => a' = { tmps := ((ps.zip (encs x)).foldl (fun t (p, v) => t.setIfInBounds p v) a.tmps).setIfInBounds d (v x), defers := [] })
    (fun _ _ _ _ _ _ hs _ _ => hs)
    (fun l pre x W K hi hK => hassign l x W K (hK _ _ (KeepsFrom.refl _ _) trivial hi rfl))
    (fun l pre x a' W hl hr hi ha hlt => by subst ha; exact hbody l pre x W hl hr hi hlt) hdone hstop

theorem rangeN {F : Fence} {n : Nat} {P : Program} {α : Type} {g : Operand} {ps : Array Tmp} {assign body : Code} {Q : Exit → Act → World → Prop} {a : Act} {w : World}
    {l₀ : Nat} {r₀ : Loop} (hro : F.round = some l₀) (hl₀ : w.heap[l₀]? = some (.loop r₀)) (h1 : 1 ≤ n) {gf : Nat} {lb : Array Value} (hg : a.eval g = .func (.func gf) #[] lb) (hFg : F.fn gf) (eg : ∀ args w, (callFunc gf args).run P w = .ok (.enter gf args) w)
    {encs : α → Array Value} {S Sp : List α → Prop} {N : Nat} {w0 : World} (hseq : SeqStopsK F (n - 1) P gf lb encs (fun _ _ => True) S Sp N w0) (hb0 : Below w0.heap.size w0 w) (hps : ∀ x, (encs x).size = ps.size)
    (I : List α → World → Prop) (Ix : Code → List α → World → Prop) (hI : OwnFrom w.heap.size I) (hIx : ∀ c, OwnFrom w.heap.size (Ix c)) (h0 : I [] w) (d : Tmp) (v : α → Value)
    (hassign : ∀ (l : Nat) (x : α) (W : World) (K : Act → World → Prop), K { tmps := ((ps.zip (encs x)).foldl (fun t (p, v) => t.setIfInBounds p v) a.tmps).setIfInBounds d (v x), defers := [] } W →
      assign.wpIn (F.inRound l) (n - 1 - 1) P (Exit.then K (fun _ _ _ => False)) { tmps := (ps.zip (encs x)).foldl (fun t (p, v) => t.setIfInBounds p v) a.tmps, defers := [] } W)
    (hbody : ∀ (l : Nat) (pre : List α) (x : α) (W : World), w.heap.size ≤ l → (∃ r, W.heap[l]? = some (.loop r)) → I pre W → pre.length < N → body.wpIn (F.inRound l) (n - 1 - 1) P (ownPostG w.heap.size (fun _ _ => True) I Ix (pre ++ [x]) W) { tmps := ((ps.zip (encs x)).foldl (fun t (p, v) => t.setIfInBounds p v) a.tmps).setIfInBounds d (v x), defers := [] } W)
    (hdone : ∀ (xs : List α) (W : World), S xs → I xs W → Q .normal a W)
    (hstop : ∀ (c : Code) (pre : List α) (W : World), Sp pre → Ix c pre W → c.wpIn F n P Q a W) :
    (Code.rangeFunc g ps assign body).wpIn F n P Q a w :=
  wpIn_rangeFunc_ownN hro hl₀ h1 hg hFg eg hseq (fun _ _ => trivial) (fun _ _ _ _ _ _ _ _ => trivial) hb0 hps I Ix hI hIx h0
    (fun x a' _ => a' = { tmps := ((ps.zip (encs x)).foldl (fun t (p, v) => t.setIfInBounds p v) a.tmps).setIfInBounds d (v x), defers := [] })
    (fun _ _ _ _ _ _ hs _ _ => hs)
    (fun l pre x W K hi hK => hassign l x W K (hK _ _ (KeepsFrom.refl _ _) trivial hi rfl))
    (fun l pre x a' W hl hr hi ha hlt => by subst ha; exact hbody l pre x W hl hr hi hlt) hdone hstop

/-- What PathWalks holds: the boxes of stop, its answer, the list, the path, the sequence, the turn, the count; the list's row; what was collected. -/
structure Base (w : World) (bl bp bs bt bn br : Nat) (st tv : Int) (s : ByteArray) (v1 fv : Value) (A : List (List UInt8)) (gone : Option Nat) (nv : Int) (W : World) : Prop where
  stop : Boxed W w.heap.size 3 (.int .i64 st)
  res : ∃ b, Boxed W (w.heap.size + 1) 4 (.bool b)
  lst : Boxed W bl 28 v1
  pth : Boxed W bp 9 (.string s)
  seq : Boxed W bs 34 fv
  turn : Boxed W bt 3 (.int .i64 tv)
  cnt : Boxed W bn 3 (.int .i64 nv)
  row : W.ownsRow br 9 1 v1 A.length (texts A)
  below : Below w.heap.size w W
  gone : ∀ D, gone = some D → W.heap[D]? = some (.deferred (some []))

variable {w W : World} {bl bp bs bt bn br : Nat} {st tv nv : Int} {s : ByteArray} {v1 fv : Value} {A : List (List UInt8)} {gone : Option Nat}

theorem Base.stay {B : Nat} {C : World} {rw : Option Nat} (h : Base w bl bp bs bt bn br st tv s v1 fv A gone nv W) (hB : w.heap.size ≤ B) (hG : ∀ D, gone = some D → D < B) (hg : W.grownBy C rw) (hr : ∀ r, rw = some r → B ≤ r ∧ ∃ o : Obj, W.heap[r]? = some o ∧ o.isCells = false) : Base w bl bp bs bt bn br st tv s v1 fv A gone nv C :=
  ⟨box_stay h.stop hg hr, h.res.imp (fun b hb => box_stay hb hg hr), box_stay h.lst hg hr, box_stay h.pth hg hr, box_stay h.seq hg hr, box_stay h.turn hg hr, box_stay h.cnt hg hr, owns_stay h.row hg hr,
    h.below.grown hg h.below.size (fun k e => Nat.le_trans hB (hr k e).1), fun D hD => (hg.block D (Array.getElem?_eq_some_iff.1 (h.gone D hD)).1 (fun e => by have := (hr D e.symm).1; have := hG D hD; omega)).trans (h.gone D hD)⟩
theorem Base.kept {C : World} (h : Base w bl bp bs bt bn br st tv s v1 fv A gone nv W) (k : Kept (fun _ => False) W C) : Base w bl bp bs bt bn br st tv s v1 fv A gone nv C :=
  ⟨box_keep h.stop k, h.res.imp (fun b hb => box_keep hb k), box_keep h.lst k, box_keep h.pth k, box_keep h.seq k, box_keep h.turn k, box_keep h.cnt k, k.ownsRow h.row (fun _ _ h => h),
    h.below.trans (k.below (B := w.heap.size) h.below.size (fun _ h => h.elim)), fun D hD => (k.block D (Array.getElem?_eq_some_iff.1 (h.gone D hD)).1 (fun e => e)).trans (h.gone D hD)⟩
theorem Base.alloc (h : Base w bl bp bs bt bn br st tv s v1 fv A gone nv W) (o : Obj) : Base w bl bp bs bt bn br st tv s v1 fv A gone nv (W.alloc o) := h.kept ((Kept.refl _ W).alloc o)

/-- A store into another box. -/
theorem Base.far {b : Nat} {t : TypeId} {u u' : Value} (h : Base w bl bp bs bt bn br st tv s v1 fv A gone nv W) (hb : Boxed W b t u) (ht : t ≠ 9) (h0 : w.heap.size ≠ b) (h1 : w.heap.size + 1 ≠ b) (h2 : bl ≠ b) (h3 : bp ≠ b) (h4 : bs ≠ b) (h5 : bt ≠ b) (h6 : bn ≠ b) (hge : w.heap.size ≤ b) : Base w bl bp bs bt bn br st tv s v1 fv A gone nv (W.setCell ⟨b, 0, none⟩ u') :=
  ⟨box_far h.stop h0 _, h.res.imp (fun _ hb' => box_far hb' h1 _), box_far h.lst h2 _, box_far h.pth h3 _, box_far h.seq h4 _, box_far h.turn h5 _, box_far h.cnt h6 _,
    h.row.kept (grownBy_setCell' W b u') (.inr (hb.not_row ht h.row).symm), h.below.setCell (p := ⟨b, 0, none⟩) hge _,
    fun D hD => ((KeepsOthers.setCell W ⟨b, 0, none⟩ u').same D _ (h.gone D hD) rfl)⟩
/-- The count is set. -/
theorem Base.count (h : Base w bl bp bs bt bn br st tv s v1 fv A gone nv W) (x : Int) (h0 : w.heap.size ≠ bn) (h1 : w.heap.size + 1 ≠ bn) (h2 : bl ≠ bn) (h3 : bp ≠ bn) (h4 : bs ≠ bn) (h5 : bt ≠ bn) (hge : w.heap.size ≤ bn) : Base w bl bp bs bt bn br st tv s v1 fv A gone x (W.setCell ⟨bn, 0, none⟩ (.int .i64 x)) :=
  ⟨box_far h.stop h0 _, h.res.imp (fun _ hb' => box_far hb' h1 _), box_far h.lst h2 _, box_far h.pth h3 _, box_far h.seq h4 _, box_far h.turn h5 _, Boxed.set _ h.cnt,
    h.row.kept (grownBy_setCell' W bn _) (.inr (h.cnt.not_row (by decide) h.row).symm), h.below.setCell (p := ⟨bn, 0, none⟩) hge _,
    fun D hD => ((KeepsOthers.setCell W ⟨bn, 0, none⟩ _).same D _ (h.gone D hD) rfl)⟩
/-- The answer is set. -/
theorem Base.answer (h : Base w bl bp bs bt bn br st tv s v1 fv A gone nv W) (x : Bool) (h2 : w.heap.size + 1 < bl) (h3 : w.heap.size + 1 < bp) (h4 : w.heap.size + 1 < bs) (h5 : w.heap.size + 1 < bt) (h6 : w.heap.size + 1 < bn) : Base w bl bp bs bt bn br st tv s v1 fv A gone nv (W.setCell ⟨w.heap.size + 1, 0, none⟩ (.bool x)) := by
  obtain ⟨b, hb⟩ := h.res
  exact ⟨box_far h.stop (by omega) _, ⟨x, Boxed.set _ hb⟩, box_far h.lst (by omega) _, box_far h.pth (by omega) _, box_far h.seq (by omega) _, box_far h.turn (by omega) _, box_far h.cnt (by omega) _,
    h.row.kept (grownBy_setCell' W _ _) (.inr (hb.not_row (by decide) h.row).symm), h.below.setCell (p := ⟨w.heap.size + 1, 0, none⟩) (by simp) _,
    fun D hD => ((KeepsOthers.setCell W ⟨w.heap.size + 1, 0, none⟩ _).same D _ (h.gone D hD) rfl)⟩
end Go.Proofs.Ythloacakomahaab

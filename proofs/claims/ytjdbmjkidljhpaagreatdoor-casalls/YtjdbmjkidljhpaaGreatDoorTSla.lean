/-
 A sequence over which one ranges while what it doesn't hold is changed, and which may be left early.
-/
import Derived.Test.YtjdbmjkidljhpaaGreatDoorTMs
namespace Go.Proofs.YtjdbmjkidljhpaaGreatDoor
open Go.RowKit Go.Shelf
attribute [local go_sem] Oper.semAt_some
set_option linter.unusedVariables false
set_option linter.unusedSimpArgs false
set_option maxRecDepth 100000
/-- What a range over a function lays for itself. -/
def Frm (o : Obj) : Prop := (∃ L, o = .loop L) ∨ ∃ d, o = .deferred d
theorem Frm.loop (L : Loop) : Frm (.loop L) := .inl ⟨L, rfl⟩
/-- It stays when memory grows, and when such a block from B on is turned. -/
def OwnL {β : Type} (B : Nat) (I : β → World → Prop) : Prop :=
 ∀ s W W' row, I s W → W.grownBy W' row → (∀ r, row = some r → B ≤ r ∧ ∃ o : Obj, W.heap[r]? = some o ∧ Frm o) → I s W'
theorem OwnL.putObj {β : Type} {B : Nat} {I : β → World → Prop} (h : OwnL B I) {s : β} {W : World} {l : Nat} {o : Obj} (o' : Obj) (hs : I s W) (hB : B ≤ l) (hl : W.heap[l]? = some o) (ho : Frm o) : I s (W.putObj l o') :=
 h s W _ (some l) hs (grownBy_putObj' W l o') (fun r e => by cases e; exact ⟨hB, o, hl, ho⟩)
theorem OwnL.kept {β : Type} {B : Nat} {I : β → World → Prop} (h : OwnL B I) {s : β} {A C : World} (hs : I s A) (hk : Kept (fun _ => False) A C) : I s C := h s A C none hs hk.grow (fun r e => by cases e)
/-- What a sequence promises a loop whose rounds turn no more than Y, and may leave; c: how many blocks it lays for itself; Z: what it goes over. -/
def SeqL {α : Type} (n g : Nat) (lb : Array Value) (encs : α → Array Value) (Y Yx Z : Nat → Prop) (C : List α → α → World → World → Prop) (S : List α → Prop) (M c : Nat) (w : World) : Prop :=
 ∀ (l : Nat) (J : List α → World → Prop) (Jx : World → Prop) (W : World), l < W.heap.size → KeepsB Z w W → (∀ k, Y k ∨ Yx k → k < W.heap.size ∨ W.heap.size + c ≤ k) → OwnL W.heap.size J → OwnL W.heap.size (fun (_ : Unit) A => Jx A) →
  (∀ pre x A W1, J pre A → Kept (fun _ => False) A W1 → C pre x A W1 → pre.length < M → W.heap.size + c ≤ A.heap.size → YieldAt Fence.wide (n - 1) Tryz.prog l (encs x) W1 fun e W' => (e = .returned (.bool true) ∧ J (pre ++ [x]) W' ∧ Kept Y W1 W') ∨ (e = .returned (.bool false) ∧ Jx W' ∧ Kept (fun k => Yx k ∨ k = l) W1 W')) →
  J [] W → CallsIn Fence.wide n Tryz.prog g (#[.func (.yield l) #[] #[]] ++ lb) W fun e W' => (∃ v, e = .returned v) ∧ ((∃ xs, S xs ∧ J xs W') ∨ Jx W')
theorem range_seqL {n : Nat} {α : Type} {g : Operand} {ps : Array Tmp} {assign body : Code} {Q : Exit → Act → World → Prop} {a : Act} {w : World} (h1 : 1 ≤ n) {gf : Nat} {lb : Array Value} (hg : a.eval g = .func (.func gf) #[] lb) (eg : ∀ args w, (callFunc gf args).run Tryz.prog w = .ok (.enter gf args) w)
  {encs : α → Array Value} {Y Yx Z : Nat → Prop} {C : List α → α → World → World → Prop} {S : List α → Prop} {M c : Nat} {w0 : World} (hC : ∀ (pre : List α) (x : α) (A A' B B' : World) (q : Nat) (L : Loop), B.heap[q]? = some (.loop L) → (∀ k, k ≠ q → B'.heap[k]? = B.heap[k]?) → A'.heap.size = A.heap.size → C pre x A B → C pre x A' B') (hCa : ∀ (pre : List α) (x : α) (A B B' : World), Kept (fun _ => False) B B' → C pre x A B → C pre x A B') (hseq : SeqL (n - 1) gf lb encs Y Yx Z C S M c w0) (hY : ∀ k, Y k ∨ Yx k → k < w.heap.size ∨ w.heap.size + 2 + c ≤ k)
  (hb0 : KeepsB Z w0 w) (hps : ∀ x, (encs x).size = ps.size) (I : List α → World → Prop) (hI : OwnL w.heap.size I) (Ix : World → Prop) (hIx : OwnL w.heap.size (fun (_ : Unit) A => Ix A)) (ec : Exit) (lc : Code) (hec : (ec = .ret ∧ lc = .ret) ∨ ∃ id, ec = .exit id ∧ lc = .exit id) (h0 : I [] w) (cs : α → Array Value) (tm : α → Nat → Array Value)
  (hassign : ∀ (l : Nat) (x : α) (W : World) (K : Act → World → Prop), K { tmps := tm x W.heap.size, defers := [] } (W.alloc (.cells (cs x) 29)) → assign.wpIn (Fence.wide.inRound l) (n - 1 - 1) Tryz.prog (Exit.then K (fun _ _ _ => False)) { tmps := (ps.zip (encs x)).foldl (fun t (p, v) => t.setIfInBounds p v) a.tmps, defers := [] } W)
  (hbody : ∀ (l : Nat) (pre : List α) (x : α) (B : Nat) (A W : World), I pre A → Kept (fun _ => False) A W → C pre x A W → A.heap.size ≤ B → W.heap[B]? = some (.cells (cs x) 29 (0, 0)) → w.heap.size ≤ l → l < w.heap.size + 2 → (∃ r, W.heap[l]? = some (.loop r)) → pre.length < M → w.heap.size + 2 + c ≤ A.heap.size → body.wpIn (Fence.wide.inRound l) (n - 1 - 1) Tryz.prog (fun e _ W' => (e = .normal ∧ Kept Y W W' ∧ I (pre ++ [x]) W') ∨ (e = ec ∧ Kept Yx W W' ∧ Ix W')) { tmps := tm x B, defers := [] } W)
  (hdone : ∀ (D : Nat) (xs : List α) (W : World), w.heap.size ≤ D → S xs → I xs W → W.heap[D]? = some (.deferred (some [])) → Q .normal { a with defers := { target := .collected D, args := #[] } :: a.defers } W)
  (hleft : ∀ (D : Nat) (W : World), w.heap.size ≤ D → Ix W → W.heap[D]? = some (.deferred (some [])) → lc.wpIn Fence.wide n Tryz.prog Q { a with defers := { target := .collected D, args := #[] } :: a.defers } W) :
  (Code.rangeFunc g ps assign body).wpIn Fence.wide n Tryz.prog Q a w := by
 have hw2 : (w.alloc (.deferred (some []))).heap.size = w.heap.size + 1 := by simp
 refine wpIn_rangeFunc fun fn hfn => ?_
 obtain ⟨L, hL⟩ : ∃ L : LoopState → Option Code → Loop, L = fun st pe => { state := st, pending := pe, fn := fn, tmps := a.tmps, params := ps, assign := assign, body := body, defers := w.heap.size } := ⟨_, rfl⟩
 obtain ⟨V, hV⟩ : ∃ V, V = (w.alloc (.deferred (some []))).alloc (.loop (L .ready none)) := ⟨_, rfl⟩
 have hk : Kept (fun _ => False) w V := by rw [hV]; exact ((Kept.refl _ w).alloc _).alloc _
 have hsV : V.heap.size = w.heap.size + 2 := by rw [hV]; simp
 have hl0 : V.heap[w.heap.size + 1]? = some (.loop (L .ready none)) := by rw [hV]; exact alloc_new _ _ hw2.symm
 have hd0 : V.heap[w.heap.size]? = some (.deferred (some [])) := by rw [hV]; exact alloc_old (alloc_new _ _ rfl)
 have hI0 : I [] V := hI.kept h0 hk
 refine ⟨w.heap.size + 1, [{ target := .collected w.heap.size, args := #[] }], V, { target := .fn (.func gf) lb, args := #[.func (.yield (w.heap.size + 1)) #[] #[]] }, V, gf, #[.func (.yield (w.heap.size + 1)) #[] #[]] ++ lb, V, ?_, ?_, fun _ _ => trivial, ?_, fun _ => h1, ?_⟩
 ·rw [hV, hL]
  exact run_enterLoop_outer _ _ _ _ _
 ·simp only [resolve, hg]
  simp [go_sem]
 ·simp [invoke, go_sem, eg]
 have far : ∀ (A B : World) (row : Option Nat), A.grownBy B row → (∀ r, row = some r → V.heap.size ≤ r ∧ ∃ o : Obj, A.heap[r]? = some o ∧ Frm o) → ∀ k, k < w.heap.size + 2 → k < A.heap.size → B.heap[k]? = A.heap[k]? := fun A B row hgr hr k hk hA => hgr.block k hA (fun e => by have := (hr k e.symm).1; omega)
 have abide : OwnL V.heap.size (fun (pre : List α) W => I pre W ∧ W.heap[w.heap.size + 1]? = some (.loop (L .ready none)) ∧ W.heap[w.heap.size]? = some (.deferred (some []))) := fun pre A B row hs hgr hr =>
  ⟨hI pre A B row hs.1 hgr (fun r e => ⟨by have := (hr r e).1; omega, (hr r e).2⟩), (far A B row hgr hr _ (by omega) (heap_lt hs.2.1)).trans hs.2.1, (far A B row hgr hr _ (by omega) (heap_lt hs.2.2)).trans hs.2.2⟩
 have abidex : OwnL V.heap.size (fun (_ : Unit) W => Ix W ∧ W.heap[w.heap.size + 1]? = some (.loop (L .done (some lc))) ∧ W.heap[w.heap.size]? = some (.deferred (some []))) := fun pre A B row hs hgr hr =>
  ⟨hIx () A B row hs.1 hgr (fun r e => ⟨by have := (hr r e).1; omega, (hr r e).2⟩), (far A B row hgr hr _ (by omega) (heap_lt hs.2.1)).trans hs.2.1, (far A B row hgr hr _ (by omega) (heap_lt hs.2.2)).trans hs.2.2⟩
 refine ((hseq (w.heap.size + 1) _ (fun W => Ix W ∧ W.heap[w.heap.size + 1]? = some (.loop (L .done (some lc))) ∧ W.heap[w.heap.size]? = some (.deferred (some []))) V (by omega) (hb0.trans (KeepsB.of_kept hk)) (fun k hk' => by have := hY k hk'; omega) abide abidex ?_ ⟨hI0, hl0, hd0⟩)).mono ?_
 ·rintro pre x A W ⟨hiA, hlA, hdA⟩ hAW hcx hlen hbigA
  have hl := (hAW.block _ (heap_lt hlA) (fun f => f)).trans hlA
  have hd := (hAW.block _ (heap_lt hdA) (fun f => f)).trans hdA
  have hy := run_yield (P := Tryz.prog) (args := encs x) hl (by rw [hL]; exact hps x)
  rw [hL] at hy
  have hwW : w.heap.size + 1 < W.heap.size := heap_lt hl
  obtain ⟨V1, hV1⟩ : ∃ V1, V1 = W.alloc (.cells (cs x) 29) := ⟨_, rfl⟩
  have hkV : Kept (fun _ => False) W V1 := by rw [hV1]; exact (Kept.refl _ W).alloc _
  have hBV : V1.heap[W.heap.size]? = some (.cells (cs x) 29 (0, 0)) := by rw [hV1]; exact alloc_new _ _ rfl
  have hl1 := (hkV.block _ (heap_lt hl) (fun f => f)).trans hl
  have hd1 := (hkV.block _ (heap_lt hd) (fun f => f)).trans hd
  have hc1 : C pre x A V1 := hCa pre x A W V1 hkV hcx
  refine ⟨fn, _, assign, body, hy, roundIn_of_wpIn hfn (hassign _ x W _ ?_)⟩
  rw [← hV1]
  refine ⟨_, run_beginRound hl1 (by rw [hL]), ?_⟩
  clear hy
  obtain ⟨U, hU⟩ : ∃ U, U = V1.putObj (w.heap.size + 1) (.loop { L .ready none with state := .busy }) := ⟨_, rfl⟩
  have hlU : U.heap[w.heap.size + 1]? = some (.loop { L .ready none with state := .busy }) := by rw [hU]; exact World.putObj_heap_same (heap_lt hl1)
  have hdU : U.heap[w.heap.size]? = some (.deferred (some [])) := by rw [hU]; exact (World.putObj_heap_other (by omega)).trans hd1
  obtain ⟨A', hA'⟩ : ∃ A', A' = A.putObj (w.heap.size + 1) (.loop { L .ready none with state := .busy }) := ⟨_, rfl⟩
  have hiU : I pre A' := by rw [hA']; exact hI.putObj _ hiA (by omega) hlA (Frm.loop _)
  have hsA : A'.heap.size = A.heap.size := by rw [hA']; simp
  have hoU : ∀ k, k ≠ w.heap.size + 1 → U.heap[k]? = V1.heap[k]? := fun k hk => by rw [hU]; exact World.putObj_heap_other hk
  have hsU : U.heap.size = V1.heap.size := by rw [hU]; simp
  have hsV1 := hkV.size
  have hBU : U.heap[W.heap.size]? = some (.cells (cs x) 29 (0, 0)) := (hoU _ (by omega)).trans hBV
  have hAU : Kept (fun _ => False) A' U := ⟨by rw [hU, hA']; exact (hAW.trans hkV).os, by rw [hU, hA']; exact (hAW.trans hkV).tape, by rw [hU, hA']; exact (hAW.trans hkV).output, by have := hAW.size; omega, fun k hk _ => by
   by_cases e : k = w.heap.size + 1
   ·subst e
    rw [hlU, hA', World.putObj_heap_same (heap_lt hlA)]
   ·rw [hoU k e, hA', World.putObj_heap_other e]
    exact (hAW.trans hkV).block k (by omega) (fun f => f)⟩
  rw [← hU]
  refine wpIn_mono (hbody _ pre x W.heap.size A' U hiU hAU (hC pre x A A' V1 U _ _ hl1 hoU hsA hc1) (by have := hAW.size; omega) hBU (by omega) (by omega) ⟨_, hlU⟩ hlen (by omega)) ?_
  rintro e a' W' (⟨rfl, hkq, hi'⟩ | ⟨hee, hkq, hx'⟩)
  ·have hl' := (hkq.block _ (heap_lt hlU) (fun e => by have := hY _ (.inl e); omega)).trans hlU
   have hd' := (hkq.block _ (heap_lt hdU) (fun e => by have := hY _ (.inl e); omega)).trans hdU
   have hos : W'.os = W.os := hkq.os.trans (by rw [hU]; exact hkV.os)
   have htp : W'.tape = W.tape := hkq.tape.trans (by rw [hU]; exact hkV.tape)
   have hout : W'.output = W.output := hkq.output.trans (by rw [hU]; exact hkV.output)
   have hsz : W.heap.size ≤ W'.heap.size := by have := hkq.size; omega
   have hend := run_endRound (P := Tryz.prog) none hl'
   have hfin : (W'.putObj (w.heap.size + 1) (.loop { { L .ready none with state := .busy } with state := .ready, pending := none })).heap[w.heap.size + 1]? = some (.loop (L .ready none)) := by
    rw [World.putObj_heap_same (heap_lt hl'), hL]
   refine ⟨_, _, hend, .inl ⟨rfl, ⟨hI.putObj _ hi' (by omega) hl' (Frm.loop _), hfin, (World.putObj_heap_other (by omega)).trans hd'⟩, ⟨hos, htp, hout, by simpa using hsz, fun k hk hn => ?_⟩⟩⟩
   by_cases e : k = w.heap.size + 1
   ·subst e
    exact hfin.trans hl.symm
   ·rw [World.putObj_heap_other e, hkq.block k (by omega) hn, hoU k e, hkV.block k hk (fun f => f)]
  ·have hl' := (hkq.block _ (heap_lt hlU) (fun e => by have := hY _ (.inr e); omega)).trans hlU
   have hd' := (hkq.block _ (heap_lt hdU) (fun e => by have := hY _ (.inr e); omega)).trans hdU
   have hos : W'.os = W.os := hkq.os.trans (by rw [hU]; exact hkV.os)
   have htp : W'.tape = W.tape := hkq.tape.trans (by rw [hU]; exact hkV.tape)
   have hout : W'.output = W.output := hkq.output.trans (by rw [hU]; exact hkV.output)
   have hsz : W.heap.size ≤ W'.heap.size := by have := hkq.size; omega
   have hend := run_endRound (P := Tryz.prog) (some lc) hl'
   have hfin : (W'.putObj (w.heap.size + 1) (.loop { { L .ready none with state := .busy } with state := .done, pending := some lc })).heap[w.heap.size + 1]? = some (.loop (L .done (some lc))) := by
    rw [World.putObj_heap_same (heap_lt hl'), hL]
   have hkx : Kept (fun k => Yx k ∨ k = w.heap.size + 1) W (W'.putObj (w.heap.size + 1) (.loop { { L .ready none with state := .busy } with state := .done, pending := some lc })) := ⟨hos, htp, hout, by simpa using hsz, fun k hk hn => by
     have e : k ≠ w.heap.size + 1 := fun e => hn (.inr e)
     rw [World.putObj_heap_other e, hkq.block k (by omega) (fun y => hn (.inl y)), hoU k e, hkV.block k hk (fun f => f)]⟩
   have hxx := hIx.putObj (s := ()) (.loop { { L .ready none with state := .busy } with state := .done, pending := some lc }) hx' (by omega) hl' (Frm.loop _)
   subst hee
   rcases hec with ⟨rfl, rfl⟩ | ⟨id, rfl, rfl⟩
   ·exact ⟨_, _, hend, .inr ⟨rfl, ⟨hxx, hfin, (World.putObj_heap_other (by omega)).trans hd'⟩, hkx⟩⟩
   ·exact ⟨_, _, hend, .inr ⟨rfl, ⟨hxx, hfin, (World.putObj_heap_other (by omega)).trans hd'⟩, hkx⟩⟩
 ·rintro e W ⟨⟨v, rfl⟩, ⟨xs, hS, hi, hl, hd⟩ | ⟨hi, hl, hd⟩⟩
  ·exact ⟨none, _, by have := run_endLoop (P := Tryz.prog) hl (by rw [hL]; simp); rw [hL] at this; exact this, hdone _ xs _ (Nat.le_refl _) hS (hI.putObj _ hi (by omega) hl (Frm.loop _)) ((World.putObj_heap_other (by omega)).trans hd)⟩
  ·exact ⟨some lc, _, by have := run_endLoop (P := Tryz.prog) hl (by rw [hL]; simp); rw [hL] at this; exact this, hleft _ _ (Nat.le_refl _) (hIx.putObj (s := ()) _ hi (by omega) hl (Frm.loop _)) ((World.putObj_heap_other (by omega)).trans hd)⟩
theorem range_seqLi {n : Nat} {α : Type} {g : Operand} {ps : Array Tmp} {assign body : Code} {Q : Exit → Act → World → Prop} {a : Act} {w : World} (h1 : 1 ≤ n) {gf : Nat} {lb : Array Value} (hg : a.eval g = .func (.func gf) #[] lb) (eg : ∀ args w, (callFunc gf args).run Tryz.prog w = .ok (.enter gf args) w)
  {encs : α → Array Value} {Y Yx Z : Nat → Prop} {C : List α → α → World → World → Prop} {S : List α → Prop} {M c : Nat} {w0 : World} (hC : ∀ (pre : List α) (x : α) (A A' B B' : World) (q : Nat) (L : Loop), B.heap[q]? = some (.loop L) → (∀ k, k ≠ q → B'.heap[k]? = B.heap[k]?) → A'.heap.size = A.heap.size → C pre x A B → C pre x A' B') (hCa : ∀ (pre : List α) (x : α) (A B B' : World), Kept (fun _ => False) B B' → C pre x A B → C pre x A B') (hseq : SeqL (n - 1) gf lb encs Y Yx Z C S M c w0) (hY : ∀ k, Y k ∨ Yx k → k < w.heap.size ∨ w.heap.size + 1 + c ≤ k)
  (hb0 : KeepsB Z w0 w) (hps : ∀ x, (encs x).size = ps.size) (I : List α → World → Prop) (hI : OwnL w.heap.size I) (Ix : World → Prop) (hIx : OwnL w.heap.size (fun (_ : Unit) A => Ix A)) (ec : Exit) (lc : Code) (hec : (ec = .ret ∧ lc = .ret) ∨ ∃ id, ec = .exit id ∧ lc = .exit id) (h0 : I [] w) (cs : α → Array Value) (tm : α → Nat → Array Value) {l0 : Nat} {r0 : Loop} (hl00 : w.heap[l0]? = some (.loop r0))
  (hassign : ∀ (l : Nat) (x : α) (W : World) (K : Act → World → Prop), K { tmps := tm x W.heap.size, defers := [] } (W.alloc (.cells (cs x) 29)) → assign.wpIn (Fence.wide.inRound l) (n - 1 - 1) Tryz.prog (Exit.then K (fun _ _ _ => False)) { tmps := (ps.zip (encs x)).foldl (fun t (p, v) => t.setIfInBounds p v) a.tmps, defers := [] } W)
  (hbody : ∀ (l : Nat) (pre : List α) (x : α) (B : Nat) (A W : World), I pre A → Kept (fun _ => False) A W → C pre x A W → A.heap.size ≤ B → W.heap[B]? = some (.cells (cs x) 29 (0, 0)) → w.heap.size ≤ l → l < w.heap.size + 1 → (∃ r, W.heap[l]? = some (.loop r)) → pre.length < M → w.heap.size + 1 + c ≤ A.heap.size → body.wpIn (Fence.wide.inRound l) (n - 1 - 1) Tryz.prog (fun e _ W' => (e = .normal ∧ Kept Y W W' ∧ I (pre ++ [x]) W') ∨ (e = ec ∧ Kept Yx W W' ∧ Ix W')) { tmps := tm x B, defers := [] } W)
  (hdone : ∀ (xs : List α) (W : World), S xs → I xs W → Q .normal a W)
  (hleft : ∀ (W : World), Ix W → lc.wpIn (Fence.wide.inRound l0) n Tryz.prog Q a W) :
  (Code.rangeFunc g ps assign body).wpIn (Fence.wide.inRound l0) n Tryz.prog Q a w := by
 refine wpIn_rangeFunc fun fn hfn => ?_
 obtain ⟨L, hL⟩ : ∃ L : LoopState → Option Code → Loop, L = fun st pe => { state := st, pending := pe, fn := fn, tmps := a.tmps, params := ps, assign := assign, body := body, defers := r0.defers } := ⟨_, rfl⟩
 obtain ⟨V, hV⟩ : ∃ V, V = w.alloc (.loop (L .ready none)) := ⟨_, rfl⟩
 have hk : Kept (fun _ => False) w V := by rw [hV]; exact (Kept.refl _ w).alloc _
 have hsV : V.heap.size = w.heap.size + 1 := by rw [hV]; simp
 have hl0 : V.heap[w.heap.size]? = some (.loop (L .ready none)) := by rw [hV]; exact alloc_new _ _ rfl
 have hI0 : I [] V := hI.kept h0 hk
 refine ⟨w.heap.size, [], V, { target := .fn (.func gf) lb, args := #[.func (.yield (w.heap.size)) #[] #[]] }, V, gf, #[.func (.yield (w.heap.size)) #[] #[]] ++ lb, V, ?_, ?_, fun _ _ => trivial, ?_, fun _ => h1, ?_⟩
 ·rw [hV, hL]
  exact run_enterLoop_inner hl00 _ _ _ _ _
 ·simp only [resolve, hg]
  simp [go_sem]
 ·simp [invoke, go_sem, eg]
 have far : ∀ (A B : World) (row : Option Nat), A.grownBy B row → (∀ r, row = some r → V.heap.size ≤ r ∧ ∃ o : Obj, A.heap[r]? = some o ∧ Frm o) → ∀ k, k < w.heap.size + 1 → k < A.heap.size → B.heap[k]? = A.heap[k]? := fun A B row hgr hr k hk hA => hgr.block k hA (fun e => by have := (hr k e.symm).1; omega)
 have abide : OwnL V.heap.size (fun (pre : List α) W => I pre W ∧ W.heap[w.heap.size]? = some (.loop (L .ready none))) := fun pre A B row hs hgr hr =>
  ⟨hI pre A B row hs.1 hgr (fun r e => ⟨by have := (hr r e).1; omega, (hr r e).2⟩), (far A B row hgr hr _ (by omega) (heap_lt hs.2)).trans hs.2⟩
 have abidex : OwnL V.heap.size (fun (_ : Unit) W => Ix W ∧ W.heap[w.heap.size]? = some (.loop (L .done (some lc)))) := fun pre A B row hs hgr hr =>
  ⟨hIx () A B row hs.1 hgr (fun r e => ⟨by have := (hr r e).1; omega, (hr r e).2⟩), (far A B row hgr hr _ (by omega) (heap_lt hs.2)).trans hs.2⟩
 refine (CallsIn.inRound l0 (hseq (w.heap.size) _ (fun W => Ix W ∧ W.heap[w.heap.size]? = some (.loop (L .done (some lc)))) V (by omega) (hb0.trans (KeepsB.of_kept hk)) (fun k hk' => by have := hY k hk'; omega) abide abidex ?_ ⟨hI0, hl0⟩)).mono ?_
 ·rintro pre x A W ⟨hiA, hlA⟩ hAW hcx hlen hbigA
  have hl := (hAW.block _ (heap_lt hlA) (fun f => f)).trans hlA
  have hy := run_yield (P := Tryz.prog) (args := encs x) hl (by rw [hL]; exact hps x)
  rw [hL] at hy
  have hwW : w.heap.size < W.heap.size := heap_lt hl
  obtain ⟨V1, hV1⟩ : ∃ V1, V1 = W.alloc (.cells (cs x) 29) := ⟨_, rfl⟩
  have hkV : Kept (fun _ => False) W V1 := by rw [hV1]; exact (Kept.refl _ W).alloc _
  have hBV : V1.heap[W.heap.size]? = some (.cells (cs x) 29 (0, 0)) := by rw [hV1]; exact alloc_new _ _ rfl
  have hl1 := (hkV.block _ (heap_lt hl) (fun f => f)).trans hl
  have hc1 : C pre x A V1 := hCa pre x A W V1 hkV hcx
  refine ⟨fn, _, assign, body, hy, roundIn_of_wpIn hfn (hassign _ x W _ ?_)⟩
  rw [← hV1]
  refine ⟨_, run_beginRound hl1 (by rw [hL]), ?_⟩
  clear hy
  obtain ⟨U, hU⟩ : ∃ U, U = V1.putObj (w.heap.size) (.loop { L .ready none with state := .busy }) := ⟨_, rfl⟩
  have hlU : U.heap[w.heap.size]? = some (.loop { L .ready none with state := .busy }) := by rw [hU]; exact World.putObj_heap_same (heap_lt hl1)
  obtain ⟨A', hA'⟩ : ∃ A', A' = A.putObj (w.heap.size) (.loop { L .ready none with state := .busy }) := ⟨_, rfl⟩
  have hiU : I pre A' := by rw [hA']; exact hI.putObj _ hiA (by omega) hlA (Frm.loop _)
  have hsA : A'.heap.size = A.heap.size := by rw [hA']; simp
  have hoU : ∀ k, k ≠ w.heap.size → U.heap[k]? = V1.heap[k]? := fun k hk => by rw [hU]; exact World.putObj_heap_other hk
  have hsU : U.heap.size = V1.heap.size := by rw [hU]; simp
  have hsV1 := hkV.size
  have hBU : U.heap[W.heap.size]? = some (.cells (cs x) 29 (0, 0)) := (hoU _ (by omega)).trans hBV
  have hAU : Kept (fun _ => False) A' U := ⟨by rw [hU, hA']; exact (hAW.trans hkV).os, by rw [hU, hA']; exact (hAW.trans hkV).tape, by rw [hU, hA']; exact (hAW.trans hkV).output, by have := hAW.size; omega, fun k hk _ => by
   by_cases e : k = w.heap.size
   ·subst e
    rw [hlU, hA', World.putObj_heap_same (heap_lt hlA)]
   ·rw [hoU k e, hA', World.putObj_heap_other e]
    exact (hAW.trans hkV).block k (by omega) (fun f => f)⟩
  rw [← hU]
  refine wpIn_mono (hbody _ pre x W.heap.size A' U hiU hAU (hC pre x A A' V1 U _ _ hl1 hoU hsA hc1) (by have := hAW.size; omega) hBU (by omega) (by omega) ⟨_, hlU⟩ hlen (by omega)) ?_
  rintro e a' W' (⟨rfl, hkq, hi'⟩ | ⟨hee, hkq, hx'⟩)
  ·have hl' := (hkq.block _ (heap_lt hlU) (fun e => by have := hY _ (.inl e); omega)).trans hlU
   have hos : W'.os = W.os := hkq.os.trans (by rw [hU]; exact hkV.os)
   have htp : W'.tape = W.tape := hkq.tape.trans (by rw [hU]; exact hkV.tape)
   have hout : W'.output = W.output := hkq.output.trans (by rw [hU]; exact hkV.output)
   have hsz : W.heap.size ≤ W'.heap.size := by have := hkq.size; omega
   have hend := run_endRound (P := Tryz.prog) none hl'
   have hfin : (W'.putObj (w.heap.size) (.loop { { L .ready none with state := .busy } with state := .ready, pending := none })).heap[w.heap.size]? = some (.loop (L .ready none)) := by
    rw [World.putObj_heap_same (heap_lt hl'), hL]
   refine ⟨_, _, hend, .inl ⟨rfl, ⟨hI.putObj _ hi' (by omega) hl' (Frm.loop _), hfin⟩, ⟨hos, htp, hout, by simpa using hsz, fun k hk hn => ?_⟩⟩⟩
   by_cases e : k = w.heap.size
   ·subst e
    exact hfin.trans hl.symm
   ·rw [World.putObj_heap_other e, hkq.block k (by omega) hn, hoU k e, hkV.block k hk (fun f => f)]
  ·have hl' := (hkq.block _ (heap_lt hlU) (fun e => by have := hY _ (.inr e); omega)).trans hlU
   have hos : W'.os = W.os := hkq.os.trans (by rw [hU]; exact hkV.os)
   have htp : W'.tape = W.tape := hkq.tape.trans (by rw [hU]; exact hkV.tape)
   have hout : W'.output = W.output := hkq.output.trans (by rw [hU]; exact hkV.output)
   have hsz : W.heap.size ≤ W'.heap.size := by have := hkq.size; omega
   have hend := run_endRound (P := Tryz.prog) (some lc) hl'
   have hfin : (W'.putObj (w.heap.size) (.loop { { L .ready none with state := .busy } with state := .done, pending := some lc })).heap[w.heap.size]? = some (.loop (L .done (some lc))) := by
    rw [World.putObj_heap_same (heap_lt hl'), hL]
   have hkx : Kept (fun k => Yx k ∨ k = w.heap.size) W (W'.putObj (w.heap.size) (.loop { { L .ready none with state := .busy } with state := .done, pending := some lc })) := ⟨hos, htp, hout, by simpa using hsz, fun k hk hn => by
     have e : k ≠ w.heap.size := fun e => hn (.inr e)
     rw [World.putObj_heap_other e, hkq.block k (by omega) (fun y => hn (.inl y)), hoU k e, hkV.block k hk (fun f => f)]⟩
   have hxx := hIx.putObj (s := ()) (.loop { { L .ready none with state := .busy } with state := .done, pending := some lc }) hx' (by omega) hl' (Frm.loop _)
   subst hee
   rcases hec with ⟨rfl, rfl⟩ | ⟨id, rfl, rfl⟩
   ·exact ⟨_, _, hend, .inr ⟨rfl, ⟨hxx, hfin⟩, hkx⟩⟩
   ·exact ⟨_, _, hend, .inr ⟨rfl, ⟨hxx, hfin⟩, hkx⟩⟩
 ·rintro e W ⟨⟨v, rfl⟩, ⟨xs, hS, hi, hl⟩ | ⟨hi, hl⟩⟩
  ·exact ⟨none, _, by have := run_endLoop (P := Tryz.prog) hl (by rw [hL]; simp); rw [hL] at this; exact this, hdone xs _ hS (hI.putObj _ hi (by omega) hl (Frm.loop _))⟩
  ·exact ⟨some lc, _, by have := run_endLoop (P := Tryz.prog) hl (by rw [hL]; simp); rw [hL] at this; exact this, hleft _ (hIx.putObj (s := ()) _ hi (by omega) hl (Frm.loop _))⟩
theorem range_seqM {n : Nat} {α : Type} {g : Operand} {ps : Array Tmp} {assign body : Code} {Q : Exit → Act → World → Prop} {a : Act} {w : World} (h1 : 1 ≤ n) {gf : Nat} {lb : Array Value} (hg : a.eval g = .func (.func gf) #[] lb) (eg : ∀ args w, (callFunc gf args).run Tryz.prog w = .ok (.enter gf args) w)
  {encs : α → Array Value} {Y Yx Z : Nat → Prop} {C : List α → α → World → World → Prop} {S : List α → Prop} {M c : Nat} {w0 : World} (hC : ∀ (pre : List α) (x : α) (A A' B B' : World) (q : Nat) (L : Loop), B.heap[q]? = some (.loop L) → (∀ k, k ≠ q → B'.heap[k]? = B.heap[k]?) → A'.heap.size = A.heap.size → C pre x A B → C pre x A' B') (hCa : ∀ (pre : List α) (x : α) (A B B' : World), Kept (fun _ => False) B B' → C pre x A B → C pre x A B') (hseq : SeqL (n - 1) gf lb encs Y Yx Z C S M c w0) (hY : ∀ k, Y k ∨ Yx k → k < w.heap.size ∨ w.heap.size + 2 + c ≤ k)
  (hb0 : KeepsB Z w0 w) (hps : ∀ x, (encs x).size = ps.size) (I : List α → World → Prop) (hI : OwnL w.heap.size I) (Ix : World → Prop) (hIx : OwnL w.heap.size (fun (_ : Unit) A => Ix A)) (ec : Exit) (lc : Code) (hec : (ec = .ret ∧ lc = .ret) ∨ ∃ id, ec = .exit id ∧ lc = .exit id) (h0 : I [] w)
  (hround : ∀ (l : Nat) (pre : List α) (x : α) (A W : World) (K : Act → World → Prop), I pre A → Kept (fun _ => False) A W → C pre x A W → w.heap.size ≤ l → l < w.heap.size + 2 → pre.length < M → w.heap.size + 2 + c ≤ A.heap.size →
   (∀ (a1 : Act) (cs : Array Value), (∀ (A' U : World), I pre A' → Kept (fun _ => False) A' U → C pre x A' U → A'.heap.size = A.heap.size → U.heap[W.heap.size]? = some (.cells cs 29 (0, 0)) → (∃ r, U.heap[l]? = some (.loop r)) → body.wpIn (Fence.wide.inRound l) (n - 1 - 1) Tryz.prog (fun e _ W' => (e = .normal ∧ Kept Y U W' ∧ I (pre ++ [x]) W') ∨ (e = ec ∧ Kept Yx U W' ∧ Ix W')) a1 U) → K a1 (W.alloc (.cells cs 29))) →
   assign.wpIn (Fence.wide.inRound l) (n - 1 - 1) Tryz.prog (Exit.then K (fun _ _ _ => False)) { tmps := (ps.zip (encs x)).foldl (fun t (p, v) => t.setIfInBounds p v) a.tmps, defers := [] } W)
  (hdone : ∀ (D : Nat) (xs : List α) (W : World), w.heap.size ≤ D → S xs → I xs W → W.heap[D]? = some (.deferred (some [])) → Q .normal { a with defers := { target := .collected D, args := #[] } :: a.defers } W)
  (hleft : ∀ (D : Nat) (W : World), w.heap.size ≤ D → Ix W → W.heap[D]? = some (.deferred (some [])) → lc.wpIn Fence.wide n Tryz.prog Q { a with defers := { target := .collected D, args := #[] } :: a.defers } W) :
  (Code.rangeFunc g ps assign body).wpIn Fence.wide n Tryz.prog Q a w := by
 have hw2 : (w.alloc (.deferred (some []))).heap.size = w.heap.size + 1 := by simp
 refine wpIn_rangeFunc fun fn hfn => ?_
 obtain ⟨L, hL⟩ : ∃ L : LoopState → Option Code → Loop, L = fun st pe => { state := st, pending := pe, fn := fn, tmps := a.tmps, params := ps, assign := assign, body := body, defers := w.heap.size } := ⟨_, rfl⟩
 obtain ⟨V, hV⟩ : ∃ V, V = (w.alloc (.deferred (some []))).alloc (.loop (L .ready none)) := ⟨_, rfl⟩
 have hk : Kept (fun _ => False) w V := by rw [hV]; exact ((Kept.refl _ w).alloc _).alloc _
 have hsV : V.heap.size = w.heap.size + 2 := by rw [hV]; simp
 have hl0 : V.heap[w.heap.size + 1]? = some (.loop (L .ready none)) := by rw [hV]; exact alloc_new _ _ hw2.symm
 have hd0 : V.heap[w.heap.size]? = some (.deferred (some [])) := by rw [hV]; exact alloc_old (alloc_new _ _ rfl)
 have hI0 : I [] V := hI.kept h0 hk
 refine ⟨w.heap.size + 1, [{ target := .collected w.heap.size, args := #[] }], V, { target := .fn (.func gf) lb, args := #[.func (.yield (w.heap.size + 1)) #[] #[]] }, V, gf, #[.func (.yield (w.heap.size + 1)) #[] #[]] ++ lb, V, ?_, ?_, fun _ _ => trivial, ?_, fun _ => h1, ?_⟩
 ·rw [hV, hL]
  exact run_enterLoop_outer _ _ _ _ _
 ·simp only [resolve, hg]
  simp [go_sem]
 ·simp [invoke, go_sem, eg]
 have far : ∀ (A B : World) (row : Option Nat), A.grownBy B row → (∀ r, row = some r → V.heap.size ≤ r ∧ ∃ o : Obj, A.heap[r]? = some o ∧ Frm o) → ∀ k, k < w.heap.size + 2 → k < A.heap.size → B.heap[k]? = A.heap[k]? := fun A B row hgr hr k hk hA => hgr.block k hA (fun e => by have := (hr k e.symm).1; omega)
 have abide : OwnL V.heap.size (fun (pre : List α) W => I pre W ∧ W.heap[w.heap.size + 1]? = some (.loop (L .ready none)) ∧ W.heap[w.heap.size]? = some (.deferred (some []))) := fun pre A B row hs hgr hr =>
  ⟨hI pre A B row hs.1 hgr (fun r e => ⟨by have := (hr r e).1; omega, (hr r e).2⟩), (far A B row hgr hr _ (by omega) (heap_lt hs.2.1)).trans hs.2.1, (far A B row hgr hr _ (by omega) (heap_lt hs.2.2)).trans hs.2.2⟩
 have abidex : OwnL V.heap.size (fun (_ : Unit) W => Ix W ∧ W.heap[w.heap.size + 1]? = some (.loop (L .done (some lc))) ∧ W.heap[w.heap.size]? = some (.deferred (some []))) := fun pre A B row hs hgr hr =>
  ⟨hIx () A B row hs.1 hgr (fun r e => ⟨by have := (hr r e).1; omega, (hr r e).2⟩), (far A B row hgr hr _ (by omega) (heap_lt hs.2.1)).trans hs.2.1, (far A B row hgr hr _ (by omega) (heap_lt hs.2.2)).trans hs.2.2⟩
 refine ((hseq (w.heap.size + 1) _ (fun W => Ix W ∧ W.heap[w.heap.size + 1]? = some (.loop (L .done (some lc))) ∧ W.heap[w.heap.size]? = some (.deferred (some []))) V (by omega) (hb0.trans (KeepsB.of_kept hk)) (fun k hk' => by have := hY k hk'; omega) abide abidex ?_ ⟨hI0, hl0, hd0⟩)).mono ?_
 ·rintro pre x A W ⟨hiA, hlA, hdA⟩ hAW hcx hlen hbigA
  have hl := (hAW.block _ (heap_lt hlA) (fun f => f)).trans hlA
  have hd := (hAW.block _ (heap_lt hdA) (fun f => f)).trans hdA
  have hy := run_yield (P := Tryz.prog) (args := encs x) hl (by rw [hL]; exact hps x)
  rw [hL] at hy
  have hwW : w.heap.size + 1 < W.heap.size := heap_lt hl
  refine ⟨fn, _, assign, body, hy, roundIn_of_wpIn hfn (hround _ pre x A W _ hiA hAW hcx (by omega) (by omega) hlen (by omega) (fun a1 cs hbody => ?_))⟩
  clear hy
  obtain ⟨V1, hV1⟩ : ∃ V1, V1 = W.alloc (.cells cs 29) := ⟨_, rfl⟩
  have hkV : Kept (fun _ => False) W V1 := by rw [hV1]; exact (Kept.refl _ W).alloc _
  have hBV : V1.heap[W.heap.size]? = some (.cells cs 29 (0, 0)) := by rw [hV1]; exact alloc_new _ _ rfl
  have hl1 := (hkV.block _ (heap_lt hl) (fun f => f)).trans hl
  have hd1 := (hkV.block _ (heap_lt hd) (fun f => f)).trans hd
  have hc1 : C pre x A V1 := hCa pre x A W V1 hkV hcx
  rw [← hV1]
  refine ⟨_, run_beginRound hl1 (by rw [hL]), ?_⟩
  obtain ⟨U, hU⟩ : ∃ U, U = V1.putObj (w.heap.size + 1) (.loop { L .ready none with state := .busy }) := ⟨_, rfl⟩
  have hlU : U.heap[w.heap.size + 1]? = some (.loop { L .ready none with state := .busy }) := by rw [hU]; exact World.putObj_heap_same (heap_lt hl1)
  have hdU : U.heap[w.heap.size]? = some (.deferred (some [])) := by rw [hU]; exact (World.putObj_heap_other (by omega)).trans hd1
  obtain ⟨A', hA'⟩ : ∃ A', A' = A.putObj (w.heap.size + 1) (.loop { L .ready none with state := .busy }) := ⟨_, rfl⟩
  have hiU : I pre A' := by rw [hA']; exact hI.putObj _ hiA (by omega) hlA (Frm.loop _)
  have hsA : A'.heap.size = A.heap.size := by rw [hA']; simp
  have hoU : ∀ k, k ≠ w.heap.size + 1 → U.heap[k]? = V1.heap[k]? := fun k hk => by rw [hU]; exact World.putObj_heap_other hk
  have hsU : U.heap.size = V1.heap.size := by rw [hU]; simp
  have hsV1 := hkV.size
  have hBU : U.heap[W.heap.size]? = some (.cells cs 29 (0, 0)) := (hoU _ (by omega)).trans hBV
  have hAU : Kept (fun _ => False) A' U := ⟨by rw [hU, hA']; exact (hAW.trans hkV).os, by rw [hU, hA']; exact (hAW.trans hkV).tape, by rw [hU, hA']; exact (hAW.trans hkV).output, by have := hAW.size; omega, fun k hk _ => by
   by_cases e : k = w.heap.size + 1
   ·subst e
    rw [hlU, hA', World.putObj_heap_same (heap_lt hlA)]
   ·rw [hoU k e, hA', World.putObj_heap_other e]
    exact (hAW.trans hkV).block k (by omega) (fun f => f)⟩
  rw [← hU]
  refine wpIn_mono (hbody A' U hiU hAU (hC pre x A A' V1 U _ _ hl1 hoU hsA hc1) hsA hBU ⟨_, hlU⟩) ?_
  rintro e a' W' (⟨rfl, hkq, hi'⟩ | ⟨hee, hkq, hx'⟩)
  ·have hl' := (hkq.block _ (heap_lt hlU) (fun e => by have := hY _ (.inl e); omega)).trans hlU
   have hd' := (hkq.block _ (heap_lt hdU) (fun e => by have := hY _ (.inl e); omega)).trans hdU
   have hos : W'.os = W.os := hkq.os.trans (by rw [hU]; exact hkV.os)
   have htp : W'.tape = W.tape := hkq.tape.trans (by rw [hU]; exact hkV.tape)
   have hout : W'.output = W.output := hkq.output.trans (by rw [hU]; exact hkV.output)
   have hsz : W.heap.size ≤ W'.heap.size := by have := hkq.size; omega
   have hend := run_endRound (P := Tryz.prog) none hl'
   have hfin : (W'.putObj (w.heap.size + 1) (.loop { { L .ready none with state := .busy } with state := .ready, pending := none })).heap[w.heap.size + 1]? = some (.loop (L .ready none)) := by
    rw [World.putObj_heap_same (heap_lt hl'), hL]
   refine ⟨_, _, hend, .inl ⟨rfl, ⟨hI.putObj _ hi' (by omega) hl' (Frm.loop _), hfin, (World.putObj_heap_other (by omega)).trans hd'⟩, ⟨hos, htp, hout, by simpa using hsz, fun k hk hn => ?_⟩⟩⟩
   by_cases e : k = w.heap.size + 1
   ·subst e
    exact hfin.trans hl.symm
   ·rw [World.putObj_heap_other e, hkq.block k (by omega) hn, hoU k e, hkV.block k hk (fun f => f)]
  ·have hl' := (hkq.block _ (heap_lt hlU) (fun e => by have := hY _ (.inr e); omega)).trans hlU
   have hd' := (hkq.block _ (heap_lt hdU) (fun e => by have := hY _ (.inr e); omega)).trans hdU
   have hos : W'.os = W.os := hkq.os.trans (by rw [hU]; exact hkV.os)
   have htp : W'.tape = W.tape := hkq.tape.trans (by rw [hU]; exact hkV.tape)
   have hout : W'.output = W.output := hkq.output.trans (by rw [hU]; exact hkV.output)
   have hsz : W.heap.size ≤ W'.heap.size := by have := hkq.size; omega
   have hend := run_endRound (P := Tryz.prog) (some lc) hl'
   have hfin : (W'.putObj (w.heap.size + 1) (.loop { { L .ready none with state := .busy } with state := .done, pending := some lc })).heap[w.heap.size + 1]? = some (.loop (L .done (some lc))) := by
    rw [World.putObj_heap_same (heap_lt hl'), hL]
   have hkx : Kept (fun k => Yx k ∨ k = w.heap.size + 1) W (W'.putObj (w.heap.size + 1) (.loop { { L .ready none with state := .busy } with state := .done, pending := some lc })) := ⟨hos, htp, hout, by simpa using hsz, fun k hk hn => by
     have e : k ≠ w.heap.size + 1 := fun e => hn (.inr e)
     rw [World.putObj_heap_other e, hkq.block k (by omega) (fun y => hn (.inl y)), hoU k e, hkV.block k hk (fun f => f)]⟩
   have hxx := hIx.putObj (s := ()) (.loop { { L .ready none with state := .busy } with state := .done, pending := some lc }) hx' (by omega) hl' (Frm.loop _)
   subst hee
   rcases hec with ⟨rfl, rfl⟩ | ⟨id, rfl, rfl⟩
   ·exact ⟨_, _, hend, .inr ⟨rfl, ⟨hxx, hfin, (World.putObj_heap_other (by omega)).trans hd'⟩, hkx⟩⟩
   ·exact ⟨_, _, hend, .inr ⟨rfl, ⟨hxx, hfin, (World.putObj_heap_other (by omega)).trans hd'⟩, hkx⟩⟩
 ·rintro e W ⟨⟨v, rfl⟩, ⟨xs, hS, hi, hl, hd⟩ | ⟨hi, hl, hd⟩⟩
  ·exact ⟨none, _, by have := run_endLoop (P := Tryz.prog) hl (by rw [hL]; simp); rw [hL] at this; exact this, hdone _ xs _ (Nat.le_refl _) hS (hI.putObj _ hi (by omega) hl (Frm.loop _)) ((World.putObj_heap_other (by omega)).trans hd)⟩
  ·exact ⟨some lc, _, by have := run_endLoop (P := Tryz.prog) hl (by rw [hL]; simp); rw [hL] at this; exact this, hleft _ _ (Nat.le_refl _) (hIx.putObj (s := ()) _ hi (by omega) hl (Frm.loop _)) ((World.putObj_heap_other (by omega)).trans hd)⟩
theorem range_seqMi {n : Nat} {α : Type} {g : Operand} {ps : Array Tmp} {assign body : Code} {Q : Exit → Act → World → Prop} {a : Act} {w : World} (h1 : 1 ≤ n) {gf : Nat} {lb : Array Value} (hg : a.eval g = .func (.func gf) #[] lb) (eg : ∀ args w, (callFunc gf args).run Tryz.prog w = .ok (.enter gf args) w)
  {encs : α → Array Value} {Y Yx Z : Nat → Prop} {C : List α → α → World → World → Prop} {S : List α → Prop} {M c : Nat} {w0 : World} (hC : ∀ (pre : List α) (x : α) (A A' B B' : World) (q : Nat) (L : Loop), B.heap[q]? = some (.loop L) → (∀ k, k ≠ q → B'.heap[k]? = B.heap[k]?) → A'.heap.size = A.heap.size → C pre x A B → C pre x A' B') (hCa : ∀ (pre : List α) (x : α) (A B B' : World), Kept (fun _ => False) B B' → C pre x A B → C pre x A B') (hseq : SeqL (n - 1) gf lb encs Y Yx Z C S M c w0) (hY : ∀ k, Y k ∨ Yx k → k < w.heap.size ∨ w.heap.size + 1 + c ≤ k)
  (hb0 : KeepsB Z w0 w) (hps : ∀ x, (encs x).size = ps.size) (I : List α → World → Prop) (hI : OwnL w.heap.size I) (Ix : World → Prop) (hIx : OwnL w.heap.size (fun (_ : Unit) A => Ix A)) (ec : Exit) (lc : Code) (hec : (ec = .ret ∧ lc = .ret) ∨ ∃ id, ec = .exit id ∧ lc = .exit id) (h0 : I [] w) {l0 : Nat} {r0 : Loop} (hl00 : w.heap[l0]? = some (.loop r0))
  (hround : ∀ (l : Nat) (pre : List α) (x : α) (A W : World) (K : Act → World → Prop), I pre A → Kept (fun _ => False) A W → C pre x A W → w.heap.size ≤ l → l < w.heap.size + 1 → pre.length < M → w.heap.size + 1 + c ≤ A.heap.size →
   (∀ (a1 : Act) (cs : Array Value), (∀ (A' U : World), I pre A' → Kept (fun _ => False) A' U → C pre x A' U → A'.heap.size = A.heap.size → U.heap[W.heap.size]? = some (.cells cs 29 (0, 0)) → (∃ r, U.heap[l]? = some (.loop r)) → body.wpIn (Fence.wide.inRound l) (n - 1 - 1) Tryz.prog (fun e _ W' => (e = .normal ∧ Kept Y U W' ∧ I (pre ++ [x]) W') ∨ (e = ec ∧ Kept Yx U W' ∧ Ix W')) a1 U) → K a1 (W.alloc (.cells cs 29))) →
   assign.wpIn (Fence.wide.inRound l) (n - 1 - 1) Tryz.prog (Exit.then K (fun _ _ _ => False)) { tmps := (ps.zip (encs x)).foldl (fun t (p, v) => t.setIfInBounds p v) a.tmps, defers := [] } W)
  (hdone : ∀ (xs : List α) (W : World), S xs → I xs W → Q .normal a W)
  (hleft : ∀ (W : World), Ix W → lc.wpIn (Fence.wide.inRound l0) n Tryz.prog Q a W) :
  (Code.rangeFunc g ps assign body).wpIn (Fence.wide.inRound l0) n Tryz.prog Q a w := by
 refine wpIn_rangeFunc fun fn hfn => ?_
 obtain ⟨L, hL⟩ : ∃ L : LoopState → Option Code → Loop, L = fun st pe => { state := st, pending := pe, fn := fn, tmps := a.tmps, params := ps, assign := assign, body := body, defers := r0.defers } := ⟨_, rfl⟩
 obtain ⟨V, hV⟩ : ∃ V, V = w.alloc (.loop (L .ready none)) := ⟨_, rfl⟩
 have hk : Kept (fun _ => False) w V := by rw [hV]; exact (Kept.refl _ w).alloc _
 have hsV : V.heap.size = w.heap.size + 1 := by rw [hV]; simp
 have hl0 : V.heap[w.heap.size]? = some (.loop (L .ready none)) := by rw [hV]; exact alloc_new _ _ rfl
 have hI0 : I [] V := hI.kept h0 hk
 refine ⟨w.heap.size, [], V, { target := .fn (.func gf) lb, args := #[.func (.yield (w.heap.size)) #[] #[]] }, V, gf, #[.func (.yield (w.heap.size)) #[] #[]] ++ lb, V, ?_, ?_, fun _ _ => trivial, ?_, fun _ => h1, ?_⟩
 ·rw [hV, hL]
  exact run_enterLoop_inner hl00 _ _ _ _ _
 ·simp only [resolve, hg]
  simp [go_sem]
 ·simp [invoke, go_sem, eg]
 have far : ∀ (A B : World) (row : Option Nat), A.grownBy B row → (∀ r, row = some r → V.heap.size ≤ r ∧ ∃ o : Obj, A.heap[r]? = some o ∧ Frm o) → ∀ k, k < w.heap.size + 1 → k < A.heap.size → B.heap[k]? = A.heap[k]? := fun A B row hgr hr k hk hA => hgr.block k hA (fun e => by have := (hr k e.symm).1; omega)
 have abide : OwnL V.heap.size (fun (pre : List α) W => I pre W ∧ W.heap[w.heap.size]? = some (.loop (L .ready none))) := fun pre A B row hs hgr hr =>
  ⟨hI pre A B row hs.1 hgr (fun r e => ⟨by have := (hr r e).1; omega, (hr r e).2⟩), (far A B row hgr hr _ (by omega) (heap_lt hs.2)).trans hs.2⟩
 have abidex : OwnL V.heap.size (fun (_ : Unit) W => Ix W ∧ W.heap[w.heap.size]? = some (.loop (L .done (some lc)))) := fun pre A B row hs hgr hr =>
  ⟨hIx () A B row hs.1 hgr (fun r e => ⟨by have := (hr r e).1; omega, (hr r e).2⟩), (far A B row hgr hr _ (by omega) (heap_lt hs.2)).trans hs.2⟩
 refine (CallsIn.inRound l0 (hseq (w.heap.size) _ (fun W => Ix W ∧ W.heap[w.heap.size]? = some (.loop (L .done (some lc)))) V (by omega) (hb0.trans (KeepsB.of_kept hk)) (fun k hk' => by have := hY k hk'; omega) abide abidex ?_ ⟨hI0, hl0⟩)).mono ?_
 ·rintro pre x A W ⟨hiA, hlA⟩ hAW hcx hlen hbigA
  have hl := (hAW.block _ (heap_lt hlA) (fun f => f)).trans hlA
  have hy := run_yield (P := Tryz.prog) (args := encs x) hl (by rw [hL]; exact hps x)
  rw [hL] at hy
  have hwW : w.heap.size < W.heap.size := heap_lt hl
  refine ⟨fn, _, assign, body, hy, roundIn_of_wpIn hfn (hround _ pre x A W _ hiA hAW hcx (by omega) (by omega) hlen (by omega) (fun a1 cs hbody => ?_))⟩
  clear hy
  obtain ⟨V1, hV1⟩ : ∃ V1, V1 = W.alloc (.cells cs 29) := ⟨_, rfl⟩
  have hkV : Kept (fun _ => False) W V1 := by rw [hV1]; exact (Kept.refl _ W).alloc _
  have hBV : V1.heap[W.heap.size]? = some (.cells cs 29 (0, 0)) := by rw [hV1]; exact alloc_new _ _ rfl
  have hl1 := (hkV.block _ (heap_lt hl) (fun f => f)).trans hl
  have hc1 : C pre x A V1 := hCa pre x A W V1 hkV hcx
  rw [← hV1]
  refine ⟨_, run_beginRound hl1 (by rw [hL]), ?_⟩
  obtain ⟨U, hU⟩ : ∃ U, U = V1.putObj (w.heap.size) (.loop { L .ready none with state := .busy }) := ⟨_, rfl⟩
  have hlU : U.heap[w.heap.size]? = some (.loop { L .ready none with state := .busy }) := by rw [hU]; exact World.putObj_heap_same (heap_lt hl1)
  obtain ⟨A', hA'⟩ : ∃ A', A' = A.putObj (w.heap.size) (.loop { L .ready none with state := .busy }) := ⟨_, rfl⟩
  have hiU : I pre A' := by rw [hA']; exact hI.putObj _ hiA (by omega) hlA (Frm.loop _)
  have hsA : A'.heap.size = A.heap.size := by rw [hA']; simp
  have hoU : ∀ k, k ≠ w.heap.size → U.heap[k]? = V1.heap[k]? := fun k hk => by rw [hU]; exact World.putObj_heap_other hk
  have hsU : U.heap.size = V1.heap.size := by rw [hU]; simp
  have hsV1 := hkV.size
  have hBU : U.heap[W.heap.size]? = some (.cells cs 29 (0, 0)) := (hoU _ (by omega)).trans hBV
  have hAU : Kept (fun _ => False) A' U := ⟨by rw [hU, hA']; exact (hAW.trans hkV).os, by rw [hU, hA']; exact (hAW.trans hkV).tape, by rw [hU, hA']; exact (hAW.trans hkV).output, by have := hAW.size; omega, fun k hk _ => by
   by_cases e : k = w.heap.size
   ·subst e
    rw [hlU, hA', World.putObj_heap_same (heap_lt hlA)]
   ·rw [hoU k e, hA', World.putObj_heap_other e]
    exact (hAW.trans hkV).block k (by omega) (fun f => f)⟩
  rw [← hU]
  refine wpIn_mono (hbody A' U hiU hAU (hC pre x A A' V1 U _ _ hl1 hoU hsA hc1) hsA hBU ⟨_, hlU⟩) ?_
  rintro e a' W' (⟨rfl, hkq, hi'⟩ | ⟨hee, hkq, hx'⟩)
  ·have hl' := (hkq.block _ (heap_lt hlU) (fun e => by have := hY _ (.inl e); omega)).trans hlU
   have hos : W'.os = W.os := hkq.os.trans (by rw [hU]; exact hkV.os)
   have htp : W'.tape = W.tape := hkq.tape.trans (by rw [hU]; exact hkV.tape)
   have hout : W'.output = W.output := hkq.output.trans (by rw [hU]; exact hkV.output)
   have hsz : W.heap.size ≤ W'.heap.size := by have := hkq.size; omega
   have hend := run_endRound (P := Tryz.prog) none hl'
   have hfin : (W'.putObj (w.heap.size) (.loop { { L .ready none with state := .busy } with state := .ready, pending := none })).heap[w.heap.size]? = some (.loop (L .ready none)) := by
    rw [World.putObj_heap_same (heap_lt hl'), hL]
   refine ⟨_, _, hend, .inl ⟨rfl, ⟨hI.putObj _ hi' (by omega) hl' (Frm.loop _), hfin⟩, ⟨hos, htp, hout, by simpa using hsz, fun k hk hn => ?_⟩⟩⟩
   by_cases e : k = w.heap.size
   ·subst e
    exact hfin.trans hl.symm
   ·rw [World.putObj_heap_other e, hkq.block k (by omega) hn, hoU k e, hkV.block k hk (fun f => f)]
  ·have hl' := (hkq.block _ (heap_lt hlU) (fun e => by have := hY _ (.inr e); omega)).trans hlU
   have hos : W'.os = W.os := hkq.os.trans (by rw [hU]; exact hkV.os)
   have htp : W'.tape = W.tape := hkq.tape.trans (by rw [hU]; exact hkV.tape)
   have hout : W'.output = W.output := hkq.output.trans (by rw [hU]; exact hkV.output)
   have hsz : W.heap.size ≤ W'.heap.size := by have := hkq.size; omega
   have hend := run_endRound (P := Tryz.prog) (some lc) hl'
   have hfin : (W'.putObj (w.heap.size) (.loop { { L .ready none with state := .busy } with state := .done, pending := some lc })).heap[w.heap.size]? = some (.loop (L .done (some lc))) := by
    rw [World.putObj_heap_same (heap_lt hl'), hL]
   have hkx : Kept (fun k => Yx k ∨ k = w.heap.size) W (W'.putObj (w.heap.size) (.loop { { L .ready none with state := .busy } with state := .done, pending := some lc })) := ⟨hos, htp, hout, by simpa using hsz, fun k hk hn => by
     have e : k ≠ w.heap.size := fun e => hn (.inr e)
     rw [World.putObj_heap_other e, hkq.block k (by omega) (fun y => hn (.inl y)), hoU k e, hkV.block k hk (fun f => f)]⟩
   have hxx := hIx.putObj (s := ()) (.loop { { L .ready none with state := .busy } with state := .done, pending := some lc }) hx' (by omega) hl' (Frm.loop _)
   subst hee
   rcases hec with ⟨rfl, rfl⟩ | ⟨id, rfl, rfl⟩
   ·exact ⟨_, _, hend, .inr ⟨rfl, ⟨hxx, hfin⟩, hkx⟩⟩
   ·exact ⟨_, _, hend, .inr ⟨rfl, ⟨hxx, hfin⟩, hkx⟩⟩
 ·rintro e W ⟨⟨v, rfl⟩, ⟨xs, hS, hi, hl⟩ | ⟨hi, hl⟩⟩
  ·exact ⟨none, _, by have := run_endLoop (P := Tryz.prog) hl (by rw [hL]; simp); rw [hL] at this; exact this, hdone xs _ hS (hI.putObj _ hi (by omega) hl (Frm.loop _))⟩
  ·exact ⟨some lc, _, by have := run_endLoop (P := Tryz.prog) hl (by rw [hL]; simp); rw [hL] at this; exact this, hleft _ (hIx.putObj (s := ()) _ hi (by omega) hl (Frm.loop _))⟩
end Go.Proofs.YtjdbmjkidljhpaaGreatDoor

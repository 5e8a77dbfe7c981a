/-
  retortlaw11's Lend and Kept by contract.
-/
import Derived.Test.YtnjhnlohjhdcpabPbx
namespace Go.Proofs.Ytnjhnlohjhdcpab
open Go.RowKit
set_option linter.unusedVariables false
set_option linter.unusedSimpArgs false
set_option maxRecDepth 100000

/-- The mark at a place. -/
def markI (i : Nat) : IN := ⟨-9, i⟩
/-- A block that is lent: the instructions, and so many marks behind them. -/
structure LentI (w : World) (g : Nat) (ys : List IN) (j : Nat) : Prop where
  there : w.there g 0 ((ys.length + 67) * 2)
  ents : ∀ i y, ys[i]? = some y → w.rangeAt g (i * 2) y.cells
  marks : ∀ t, t < j → w.rangeAt g ((ys.length + t) * 2) (markI (ys.length + t)).cells
theorem LentI.step {w : World} {g : Nat} {ys : List IN} {j : Nat} (h : LentI w g ys j) (hj : j < 67) : LentI (w.setCells g ((ys.length + j) * 2) (markI (ys.length + j)).cells) g ys (j + 1) := by
  have hth : w.there g ((ys.length + j) * 2) (markI (ys.length + j)).cells.length := there_sub h.there (by show _ + 2 ≤ _; omega)
  refine ⟨World.there_setCells h.there _ _ _, fun i y hi => ?_, fun t ht => ?_⟩
  · refine World.rangeAt_setCells_apart (h.ents i y hi) _ _ _ (.inr (.inl ?_))
    have hil : i < ys.length := (List.getElem?_eq_some_iff.1 hi).1
    show i * 2 + 2 ≤ _
    omega
  · rcases Nat.lt_or_ge t j with h1 | h1
    · refine World.rangeAt_setCells_apart (h.marks t h1) _ _ _ (.inr (.inl ?_))
      show (ys.length + t) * 2 + 2 ≤ _
      omega
    · have e : t = j := by omega
      subst e
      exact World.rangeAt_setCells_same _ _ _ _ hth
theorem there_kept {S : Nat → Prop} {w w' : World} {g n : Nat} (h : w.there g 0 n) (hk : Kept S w w') (hS : ¬ S g) : w'.there g 0 n := fun i hi => by
  have h1 := h i hi
  cases hb : w.heap[g]? with
  | none =>
    have := h1.1
    simp [World.cell?, hb] at this
  | some ob =>
    have hb' := (hk.block g (Array.getElem?_eq_some_iff.1 hb).1 hS).trans hb
    unfold World.cell? World.frozen? at h1 ⊢
    simp only [hb, hb'] at h1 ⊢
    exact h1
theorem LentI.kept {S : Nat → Prop} {w w' : World} {g : Nat} {ys : List IN} {j : Nat} (h : LentI w g ys j) (hk : Kept S w w') (hS : ¬ S g) : LentI w' g ys j :=
  ⟨there_kept h.there hk hS, fun i y hy k u hu => hk.cell (h.ents i y hy k u hu) hS, fun t ht k u hu => hk.cell (h.marks t ht k u hu) hS⟩
theorem LentI.row {w : World} {g : Nat} {ys : List IN} {j c : Nat} (h : LentI w g ys j) : RowI w (.slice (some ⟨g, 0, none⟩) ys.length c) ys := by
  refine .inr ⟨g, 0, c, rfl, fun i y hy => ?_⟩
  rw [Nat.zero_add]
  exact h.ents i y hy
def zin (n : Nat) : Array Value := madeCells (Value.agg #[.int .i64 0, .int .i64 0]).cells n
theorem zin_size (n : Nat) : (zin n).size = n := size_madeCells _ n
theorem make_ins (W : World) (l : Nat) (h : l * 16 ≤ 140737488355328) : (Instr.makeSlice 42 (.int .i64 (l : Int)) (.int .i64 (l : Int))).run Try.prog W = .ok (.slice (some ⟨W.heap.size, 0, none⟩) l l) (W.alloc (.cells (zin (l * 2)) 46)) := by
  obtain ⟨i0, hi, hz0, hz1, hz2⟩ := info_parts Try.info46
  have := run_make (P := Try.prog) W 42 46 i0 _ Try.underlying42 hi hz0 .i64 .i64 (l : Int) (l : Int) (by omega) (by omega) (by rw [hz2]; omega) (by omega)
  rw [hz1] at this
  simpa [zin, Value.cells] using this
theorem run_copy52 (w : World) (ty : TypeId) (b dLen dCap : Nat) (a : Option Addr) (n sCap : Nat) (cs : List Value) (hn : cs.length = n * 2) (hle : n ≤ dLen) (ha : a = none → n = 0)
    (hsrc : ∀ ad, a = some ad → ∀ j v, cs[j]? = some v → w.cell? (ad.add j) = some v) (hth : w.there b 0 (n * 2)) (h1 : ∀ v ∈ cs, v.oneCell' = true) :
    (Builtin.copy_ #[42, 42] ty #[.slice (some ⟨b, 0, none⟩) dLen dCap, .slice a n sCap]).run Try.prog w = .ok (goInt n) (w.setCells b 0 cs) := by
  obtain ⟨i0, hi, hz0, hz1, hz2⟩ := info_parts Try.info46
  have hst := run_storeCells_cells (P := Try.prog) b 0 cs 0 w (fun j hj => by simpa using (hth j (by omega)).1) (fun j hj => by simpa using (hth j (by omega)).2) h1
  have hmin : Nat.min n dLen = n := Nat.min_eq_left hle
  cases a with
  | none =>
    have h0 := ha rfl
    subst h0
    have e : cs = [] := List.length_eq_zero_iff.1 (by omega)
    subst e
    simp [Builtin.copy_, run_underlying Try.underlying42, Builtin.lenOf, Builtin.firstCells, sizeOf, typeInfo, hi, hz1, hmin, storeCells, World.setCells]
  | some ad =>
    have hl := run_loadCells_list (P := Try.prog) w ad cs (hsrc ad rfl)
    rw [hn] at hl
    simp [Builtin.copy_, run_underlying Try.underlying42, Builtin.lenOf, Builtin.firstCells, sizeOf, typeInfo, hi, hz1, hmin, hl, hst]
theorem icells_one (ys : List IN) : ∀ u ∈ icells ys, u.oneCell' = true := by
  intro u hu
  obtain ⟨y, _, hy⟩ := List.mem_flatMap.1 hu
  simp [IN.cells] at hy
  rcases hy with rfl | rfl <;> rfl
theorem rowI_cells {w : World} {a : Addr} {c : Nat} {ys : List IN} (h : RowI w (.slice (some a) ys.length c) ys) : ∀ j v, (icells ys)[j]? = some v → w.cell? (a.add j) = some v := by
  intro j v hj
  have hl := (List.getElem?_eq_some_iff.1 hj).1
  rw [icells_length ys] at hl
  rcases h with ⟨e, _⟩ | ⟨g, o, c', e, hc⟩
  · rw [e] at hl; simp at hl
  · cases e
    have hq : j / 2 < ys.length := by omega
    obtain ⟨y, hyi⟩ : ∃ y, ys[j / 2]? = some y := ⟨_, List.getElem?_eq_getElem hq⟩
    have hat := icells_at ys (j / 2) y hyi (j % 2) (by omega)
    rw [show j / 2 * 2 + j % 2 = j by omega, hj] at hat
    have := hc (j / 2) y hyi (j % 2) v hat.symm
    rw [Addr.add_lit, show o + j = o + j / 2 * 2 + j % 2 by omega]
    exact this
theorem lendI_copy (w : World) (ao : Option Addr) (c : Nat) (ys : List IN) (hv : RowI w (.slice ao ys.length c) ys) : ∃ W', (Builtin.copy_ #[42, 42] 3 #[.slice (some ⟨w.heap.size, 0, none⟩) (ys.length + 67) (ys.length + 67), .slice ao ys.length c]).run Try.prog (w.alloc (.cells (zin ((ys.length + 67) * 2)) 46)) = .ok (goInt ys.length) W' ∧
    LentI W' w.heap.size ys 0 ∧ Kept (fun _ => False) w W' := by
  have hb := heap_alloc_new w (.cells (zin ((ys.length + 67) * 2)) 46)
  have hkA : Kept (fun _ => False) w (w.alloc (.cells (zin ((ys.length + 67) * 2)) 46)) := (Kept.refl _ _).alloc _
  have hvA := hv.kept hkA (fun _ _ f => f)
  have hth : (w.alloc (.cells (zin ((ys.length + 67) * 2)) 46)).there w.heap.size 0 ((ys.length + 67) * 2) := fun j hj => by
    refine ⟨?_, frozen_block _ _ _ _ _ hb⟩
    rw [cell_block _ _ _ _ _ _ hb, Array.getElem?_eq_getElem (by rw [zin_size]; omega)]
    rfl
  have hel : (icells ys).length = ys.length * 2 := by rw [icells_length]; omega
  have hr := run_copy52 (w.alloc (.cells (zin ((ys.length + 67) * 2)) 46)) 3 w.heap.size (ys.length + 67) (ys.length + 67) ao ys.length c (icells ys) hel (by omega) (fun e => by
    subst e
    rcases hv with ⟨e, _⟩ | ⟨g, o, c', e, _⟩
    · rw [e]; rfl
    · cases e) (fun ad e => by
    subst e
    exact rowI_cells hvA) (there_sub hth (by omega)) (icells_one ys)
  refine ⟨_, hr, ⟨World.there_setCells hth _ _ _, fun i y hi j u hj => ?_, fun t ht => absurd ht (by omega)⟩, hkA.step (kept_cells _ _ _ _) (fun i hi e => by omega)⟩
  have hj2 : j < 2 := by
    have := (List.getElem?_eq_some_iff.1 hj).1
    simpa [IN.cells] using this
  have hs := World.rangeAt_setCells_same (w.alloc (.cells (zin ((ys.length + 67) * 2)) 46)) w.heap.size 0 (icells ys) (there_sub hth (by rw [hel]; omega)) (i * 2 + j) u (by rw [icells_at ys i y hi j hj2, hj])
  rwa [Nat.zero_add] at hs

/-- While lent instructions are written over. -/
def OverI (w wr : World) (g n : Nat) : Prop := wr.there g 0 n ∧ Kept (fun k => k = g) w wr

end Go.Proofs.Ytnjhnlohjhdcpab

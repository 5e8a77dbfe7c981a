/-
  A row of entries: one more is put behind it.
-/
import Derived.Test.YtcpkbajmilkhpabGreatDoorNex
import Derived.Great.BuildSlice
namespace Go.Proofs.YtcpkbajmilkhpabGreatDoor
open Go.RowKit
set_option linter.unusedVariables false
set_option linter.unusedSimpArgs false
set_option maxRecDepth 100000

theorem info47 : (Tryz.prog.info? 41).map (fun i => (i.zero, i.size, i.bytes)) = some (some (.agg (entA ⟨#[]⟩ 0 [])), 34, 56) := by kernel_rfl

/-- An entry's cells, as a list. -/
def EV.cells (y : EV) : List Value := .string (str y.nm) :: .int .i64 y.k :: ((y.fr ++ List.replicate (32 - y.fr.length) 0).map (Value.int .u8))
theorem EV.arr (y : EV) : entA (str y.nm) y.k y.fr = y.cells.toArray := rfl
theorem EV.clen (y : EV) (h : y.fr.length ≤ 32) : y.cells.length = 34 := by
  simp [EV.cells]
  omega
theorem EV.one (y : EV) : ∀ u ∈ y.cells, u.oneCell' = true := by
  intro u hu
  rcases List.mem_cons.1 hu with rfl | hu
  · rfl
  · rcases List.mem_cons.1 hu with rfl | hu
    · rfl
    · obtain ⟨n, _, rfl⟩ := List.mem_map.1 hu
      rfl

/-- Entries behind one another. -/
def ents (l : List EV) : List Value := l.flatMap EV.cells
theorem ents_snoc (l : List EV) (y : EV) : ents (l ++ [y]) = ents l ++ y.cells := by simp [ents, List.flatMap_append]

theorem app_ent (W : World) (v : Value) (base : Nat) (l : List EV) (y : EV) (hy : y.fr.length ≤ 32) (hown : W.ownsRow base 41 34 v l.length (ents l)) (hb : base ≤ W.heap.size) (hsz : (l.length + 1) * 56 ≤ 140737488355328) :
    ∃ v' w', (Builtin.append_ #[22, 22] 22 #[v, .slice (some ⟨W.heap.size, 0, none⟩) 1 1]).run Tryz.prog (W.alloc (.cells y.cells.toArray 41)) = .ok v' w' ∧ w'.ownsRow base 41 34 v' (l ++ [y]).length (ents (l ++ [y])) ∧ (∃ g cap, v' = .slice (some ⟨g, 0, none⟩) (l ++ [y]).length cap) ∧ Kept (fun k => v.ownBlock = some k) W w' := by
  obtain ⟨i0, hi, hz0, hz1, hz2⟩ := info_parts info47
  obtain ⟨v', w', hr, h2, h3, _⟩ := run_append_own (P := Tryz.prog) (W.alloc (.cells y.cells.toArray 41)) base 22 22 41 i0 _ 34 56 Tryz.underlying22 hi hz0 hz1 hz2 rfl (by decide) v l.length (ents l) (hown.alloc _) ⟨W.heap.size, 0, none⟩ 1 1 y.cells (by rw [EV.clen y hy]) (fun j u hj => by
    rw [Addr.add_lit, cell_block _ _ _ _ _ _ (heap_alloc_new W _), Nat.zero_add]
    simpa using hj) (EV.one y) (by unfold maxLen; omega) hsz (by simp; omega)
  rw [← ents_snoc] at h2
  refine ⟨v', w', hr, by rw [List.length_append]; exact h2, ?_, ?_⟩
  · rw [List.length_append]
    rcases h2.2 with ⟨_, h⟩ | ⟨g, cap, cur, h, _⟩
    · simp at h
    · exact ⟨g, cap, h⟩
  · exact ((Kept.refl (fun k => v.ownBlock = some k) W).alloc _).grown h3 (fun k hk => .inr hk)
theorem fold_get : ∀ (cs : List Value) (k : Nat) (init : Array Value), k + cs.length ≤ init.size → ∀ i, ((cs.zipIdx k).foldl (fun a x => a.setIfInBounds x.2 x.1) init)[i]? = if k ≤ i ∧ i < k + cs.length then cs[i - k]? else init[i]?
  | [], k, init, _, i => by
    rw [if_neg (by simp; try omega)]
    rfl
  | c :: cs, k, init, h, i => by
    rw [List.zipIdx_cons, List.foldl_cons, fold_get cs (k + 1) _ (by simp at h ⊢; omega) i]
    simp only [List.length_cons]
    rw [Array.getElem?_setIfInBounds]
    by_cases e : k = i
    · subst e
      rw [if_neg (by omega), if_pos rfl, if_pos (by simp at h; omega), if_pos (by omega), Nat.sub_self]
      rfl
    · rw [if_neg e]
      by_cases e2 : k + 1 ≤ i ∧ i < k + 1 + cs.length
      · rw [if_pos e2, if_pos (by omega), show i - k = (i - (k + 1)) + 1 by omega]
        rfl
      · rw [if_neg e2, if_neg (by omega)]
theorem fill_one (cs : List Value) (init : Array Value) (hl : cs.length = 34) (hi : init.size = 34) : Instr.fill (fun i => some (i * 34, 34)) init [(0, .agg cs.toArray)] = some cs.toArray := by
  have hf : (cs.zipIdx.foldl (fun a x => a.setIfInBounds x.2 x.1) init) = cs.toArray := by
    apply Array.ext_getElem?
    intro i
    rw [fold_get cs 0 init (by omega) i]
    by_cases h : 0 ≤ i ∧ i < 0 + cs.length
    · rw [if_pos h]
      simp
    · rw [if_neg h, Array.getElem?_eq_none (by omega), Array.getElem?_eq_none (by simp; omega)]
  simp [Instr.fill, Value.cells, hl, hi, hf]
theorem wpList_build47 {ops : Array Oper} {rest : List Oper} {o : Oper} {a : Act} {w : World} {Q : Exit → Act → World → Prop} (hg : o.guard = none) (x : Operand) (ho : o.op = .buildSlice 22 1 #[(0, x)]) (cs : List Value) (hx : a.eval x = .agg cs.toArray) (hl : cs.length = 34)
    (h : wpList Tryz.prog ops Q rest (a.put o.dst (.slice (some ⟨w.heap.size, 0, none⟩) 1 1)) (w.alloc (.cells cs.toArray 41))) : wpList Tryz.prog ops Q (o :: rest) a w := by
  obtain ⟨i0, hi, hz0, hz1, hz2⟩ := info_parts info47
  refine wpList_buildSlice hg 22 41 1 _ ho cs.toArray i0 _ Tryz.underlying22 hi hz0 (by rw [hz1]; decide) (by rw [hz1]; decide) ?_ h
  rw [hz1]
  have e : (#[(0, x)].map fun (i, y) => (i, a.eval y)).toList = [(0, .agg cs.toArray)] := by rw [← hx]; simp
  rw [e]
  exact fill_one cs _ hl (by simp)
end Go.Proofs.YtcpkbajmilkhpabGreatDoor

/-
  TBj: Bj.
-/
import Derived.Test.YtgoabnehdmdikaaGreatDoorTBi
import Derived.Test.YtgoabnehdmdikaaGreatDoorTBh
import Derived.Laws.IdiomCopy
import Derived.Lib.ConvBytes
namespace Go.Proofs.YtgoabnehdmdikaaGreatDoor
open Go.RowKit
set_option linter.unusedVariables false
set_option linter.unusedSimpArgs false
set_option maxRecDepth 100000

theorem set_take (l : List Value) (o : Nat) (v : Value) (h : o < l.length) : (l.set o v).take (o + 1) = l.take o ++ [v] := by
  rw [List.take_succ_eq_append_getElem (by simpa using h), List.getElem_set_self, List.take_set, List.set_eq_of_length_le (by simp; omega)]
theorem setCells_blk (g t : Nat) (fz : Nat × Nat) : ∀ (vs : List Value) (o : Nat) (w : World) (cur : Array Value), w.heap[g]? = some (.cells cur t fz) → o + vs.length ≤ cur.size → ∃ cur' : Array Value, (w.setCells g o vs).heap[g]? = some (.cells cur' t fz) ∧ cur'.size = cur.size ∧ cur'.toList.take (o + vs.length) = cur.toList.take o ++ vs
  | [], o, w, cur, h, _ => ⟨cur, h, rfl, by simp⟩
  | v :: r, o, w, cur, h, hl => by
    simp only [List.length_cons] at hl
    obtain ⟨cur', h1, h2, h3⟩ := setCells_blk g t fz r (o + 1) (w.setCell ⟨g, o, none⟩ v) _ (set_block _ _ _ _ _ _ h v) (by simp; omega)
    refine ⟨cur', h1, by simpa using h2, ?_⟩
    rw [List.length_cons, show o + (r.length + 1) = o + 1 + r.length by omega, h3, Array.toList_setIfInBounds, set_take _ _ _ (by simp; omega)]
    simp
/-- A row of bytes of one's own that came of a text: it may bear a mark behind its last cell. -/
structure Bm (w0 w1 wr : World) (g m c : Nat) (zs : List Value) : Prop where
  lo : w0.heap.size ≤ g
  blk : ∃ (cur : Array Value) (fz : Nat × Nat), wr.heap[g]? = some (.cells cur 5 fz) ∧ cur.size = c ∧ (fz = (0, 0) ∨ fz.1 = c) ∧ cur.toList.take m = zs
  len : m = zs.length
  mc : m ≤ c
  kept : Kept (fun _ => False) w0 wr
  oth : Lib.OthersKept 5 none w1 wr
theorem kept_setCells (g : Nat) (vs : List Value) (o : Nat) (w : World) : Kept (fun k => k = g) w (w.setCells g o vs) := by
  have hk : ∀ (vs : List Value) (o : Nat) (w1 : World), Kept (fun k => k = g) w w1 → Kept (fun k => k = g) w (w1.setCells g o vs) := by
    intro vs
    induction vs with
    | nil => exact fun o w1 h => h
    | cons v r ih => exact fun o w1 h => ih _ _ (h.setCell (.inr rfl) _)
  exact hk vs o w (Kept.refl _ _)
theorem Bm.pushS {w0 w1 wr : World} {g m c : Nat} {zs : List Value} (h : Bm w0 w1 wr g m c zs) (s : ByteArray) (hl : m + s.size ≤ 140737488355328) :
    ∃ g' m' c' w', (Builtin.append_ #[23, 9] 23 #[.slice (some ⟨g, 0, none⟩) m c, .string s]).run Tryz.prog wr = .ok (.slice (some ⟨g', 0, none⟩) m' c') w' ∧ Bm w0 w1 w' g' m' c' (zs ++ Lib.strCells s) := by
  obtain ⟨i0, hi, hz0, hz1, hz2⟩ := info_parts Tryz.info5
  obtain ⟨cur, fz, hg, hcs, hfz, htk⟩ := h.blk
  have hmc := h.mc
  have hsl := Lib.strCells_length s
  by_cases hroom : m + s.size ≤ c
  · have hf := Lib.run_firstCells_string (P := Tryz.prog) wr 1 s
    have hfr : ∀ j, j < c → wr.frozen? ⟨g, j, none⟩ = false := fun j hj => by
      simp only [World.frozen?, hg]
      rcases hfz with rfl | hfz
      · simp
      · simp; omega
    have hst := run_storeCells_cells (P := Tryz.prog) g m (Lib.strCells s) 0 wr (fun j hj => by
      rw [Nat.add_zero, cell_block _ _ _ _ _ _ hg]
      simp only [Array.getElem?_eq_getElem (show m + j < cur.size by omega), Option.isSome_some]) (fun j hj => hfr _ (by omega)) (Lib.strCells_oneCell s)
    rw [Nat.add_zero] at hst
    have hr : (Builtin.append_ #[23, 9] 23 #[.slice (some ⟨g, 0, none⟩) m c, .string s]).run Tryz.prog wr = .ok (.slice (some ⟨g, 0, none⟩) (m + s.size) c) (wr.setCells g m (Lib.strCells s)) := by
      simp [Builtin.append_, run_underlying Tryz.underlying23, run_underlying Tryz.underlying9, sizeOf, typeInfo, hi, hz1, Builtin.lenOf, hroom, hf, Addr.add_lit, hst]
    obtain ⟨cur', h1, h2, h3⟩ := setCells_blk g 5 fz (Lib.strCells s) m wr cur hg (by omega)
    have hk1 := kept_setCells g (Lib.strCells s) m wr
    refine ⟨g, _, c, _, hr, ⟨h.lo, ⟨cur', fz, h1, by omega, hfz, by rw [← hsl, h3, htk]⟩, by rw [List.length_append, hsl, ← h.len], hroom, h.kept.step hk1 (fun i hi e => by have := h.lo; omega), h.oth.trans (fun k o hk' _ hn => box_kept hk1 hk' (fun e => ?_))⟩⟩
    subst e
    rw [hg] at hk'
    cases hk'
    exact hn _ _ rfl
  · have holds : ∀ j u, zs[j]? = some u → wr.cell? ((⟨g, 0, none⟩ : Addr).add j) = some u := fun j u hu => by
      have hj : j < m := by have := (List.getElem?_eq_some_iff.1 hu).1; have := h.len; omega
      rw [Addr.add_lit, Nat.zero_add, cell_block _ _ _ _ _ _ hg, ← hu, ← htk, List.getElem?_take_of_lt hj]
      simp
    have hr := Lib.run_append_grow_string (P := Tryz.prog) wr 23 9 23 5 i0 _ Tryz.underlying23 Tryz.underlying9 hi hz0 ⟨g, 0, none⟩ m c zs (by rw [hz1]; have := h.len; omega) holds s (by omega) (by omega) (by rw [hz2]; exact growslice_fits (by omega) (by omega))
    have hge := grownCap_ge wr (m + s.size) c 5
    have hk1 : Kept (fun _ => False) wr (wr.drew.alloc (.cells (zs.toArray ++ (Lib.strCells s).toArray ++ Builtin.zeroCells (Value.int .u8 0).cells (grownCap wr (m + s.size) c 5 - (m + s.size))) 5)) := (Kept.refl _ _).drew.alloc _
    refine ⟨_, _, _, _, hr, ⟨h.kept.size, ⟨_, (0, 0), heap_alloc_new wr.drew _, ?_, .inl rfl, ?_⟩, by rw [List.length_append, hsl, ← h.len], hge, h.kept.trans hk1, h.oth.trans (oth5_kept hk1)⟩⟩
    · have hz1 : (Value.int IntKind.u8 0).cells.size = 1 := rfl
      have := h.len
      simp only [Array.size_append, List.size_toArray, size_zeroCells, hz1, hsl]
      omega
    · have e : m + s.size = (zs ++ Lib.strCells s).length := by rw [List.length_append, hsl, ← h.len]
      simp only [Array.toList_append, List.append_assoc]
      rw [← List.append_assoc, e]
      exact List.take_left
theorem Bm.step {w0 w1 wr w' : World} {g m c g' m' c' : Nat} {zs ns : List Value} (h : Bm w0 w1 wr g m c zs) (h' : Bm w0 w1 w' g' m' c' (zs ++ ns)) : m' = m + ns.length := by
  rw [h.len, h'.len, List.length_append]
theorem Bm.here {w0 w1 wr w2 : World} {g m c : Nat} {zs : List Value} (h : Bm w0 w1 wr g m c zs) (hk : Kept (fun _ => False) wr w2) : Bm w0 w2 w2 g m c zs := by
  obtain ⟨cur, fz, hg, rest⟩ := h.blk
  exact ⟨h.lo, ⟨cur, fz, box_kept hk hg (fun f => f), rest⟩, h.len, h.mc, h.kept.trans hk, Lib.OthersKept.refl _ _ _⟩
theorem Bm.same {w0 w1 wr w2 : World} {g m c : Nat} {zs : List Value} (h : Bm w0 w1 wr g m c zs) (hk : Kept (fun _ => False) wr w2) : Bm w0 w1 w2 g m c zs := by
  obtain ⟨cur, fz, hg, rest⟩ := h.blk
  exact ⟨h.lo, ⟨cur, fz, box_kept hk hg (fun f => f), rest⟩, h.len, h.mc, h.kept.trans hk, h.oth.trans (oth5_kept hk)⟩
theorem Bm.rebase {w0 w1 w2 wr : World} {g m c : Nat} {zs : List Value} (h : Bm w0 w2 wr g m c zs) (ho : Lib.OthersKept 5 none w1 w2) : Bm w0 w1 wr g m c zs := ⟨h.lo, h.blk, h.len, h.mc, h.kept, ho.trans h.oth⟩
/-- A new row out of a text. -/
theorem bm_new (w0 w : World) (hk : Kept (fun _ => False) w0 w) (s : ByteArray) : ∃ c w', (convert 9 23 (.string s)).run Tryz.prog w = .ok (.slice (some ⟨w.heap.size, 0, none⟩) s.size c) w' ∧ Bm w0 w' w' w.heap.size s.size c (Lib.strCells s) ∧ Kept (fun _ => False) w w' := by
  have hr := Lib.run_convert_string_bytes (P := Tryz.prog) w 9 23 5 s Tryz.underlying9 Tryz.underlying23 Tryz.underlying5
  have hk1 : Kept (fun _ => False) w (Lib.bytesWorld w 5 s) := by
    refine ⟨?_, ?_, ?_, ?_, fun k hk _ => Lib.bytesWorld_at_old w 5 s k hk⟩
    · rfl
    · rfl
    · rfl
    · rw [Lib.bytesWorld_size]; omega
  have hge := grownCap_ge w s.size 0 5
  have hsz : (Lib.bytesCells w 5 s).size = grownCap w s.size 0 5 := by
    have : s.data.size = s.size := rfl
    simp only [Lib.bytesCells, Array.size_append, Array.size_map, Array.size_replicate, this]
    omega
  refine ⟨_, _, hr, ⟨hk.size, ⟨_, _, Lib.bytesWorld_at_new w 5 s, hsz, .inr hsz, ?_⟩, (Lib.strCells_length s).symm, hge, hk.trans hk1, Lib.OthersKept.refl _ _ _⟩, hk1⟩
  have e : s.size = (Lib.strCells s).length := (Lib.strCells_length s).symm
  rw [e]
  simp only [Lib.bytesCells, Array.toList_append]
  rw [show (s.data.map fun b => Value.int IntKind.u8 (b.toNat : Int)).toList = Lib.strCells s by simp [Lib.strCells]]
  exact List.take_left
theorem Bm.isB {w0 w1 wr : World} {g m c : Nat} {xs : List Int} (h : Bm w0 w1 wr g m c (byts xs)) : IsB wr (.slice (some ⟨g, 0, none⟩) m c) xs := by
  obtain ⟨cur, fz, hg, hcs, hfz, htk⟩ := h.blk
  have hl : m = xs.length := by have := h.len; simpa [byts] using this
  subst hl
  refine .inr ⟨g, 0, c, rfl, fun i hi => ?_⟩
  have h2 : (cur.toList.take xs.length)[i]? = (byts xs)[i]? := by rw [htk]
  rw [List.getElem?_take_of_lt hi] at h2
  rw [cell_block _ _ _ _ _ _ hg, Nat.zero_add]
  have h3 : (byts xs)[i]? = some (.int .u8 (xs.getD i 0)) := by simp [byts, hi]
  rw [h3] at h2
  simpa using h2
end Go.Proofs.YtgoabnehdmdikaaGreatDoor

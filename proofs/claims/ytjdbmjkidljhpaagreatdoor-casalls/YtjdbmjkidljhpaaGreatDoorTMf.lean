/-
 Mf: Creg, Rs0.
-/
import Derived.Test.YtjdbmjkidljhpaaGreatDoorTCst
import Derived.Test.YtjdbmjkidljhpaaGreatDoorTMe
import Derived.Deep.MidRow
import Derived.Test.YtjdbmjkidljhpaaGreatDoorTMd
namespace Go.Proofs.YtjdbmjkidljhpaaGreatDoor
open Go.RowKit
set_option linter.unusedVariables false
set_option linter.unusedSimpArgs false
set_option maxRecDepth 100000
section
variable {P : Program} {ops : Array Oper} {S : World → Prop} {o : Oper} {a : Act} {w : World} {K : Act → World → Prop} {Q : Exit → Act → World → Prop} {E : Prop}
/-- A whole row's load, under what holds. -/
theorem yields_row (hw : Region.wanted o (yielded ops a.tmps) = true) (ty : TypeId) (x : Operand) (ho : o.op = .load ty x)
  (g : Nat) (hx : a.eval x = .pointer (some ⟨g, 0, none⟩)) (t : TypeId) (cs : Array Value) (fr : Nat × Nat) (d : TypeDesc) (hS : ∀ w, S w → w.heap[g]? = some (.cells cs t fr))
  (hu : P.underlying ty = some d) (hd : (match d with | .struct _ | .array _ _ => true | _ => false) = true) (hi : (P.info? ty).map (·.size) = some cs.size) : YieldsIf P ops S o (.agg cs) a :=
 .inl ⟨hw, fun w hw' => by
  unfold execOp
  simp only [ho, hx, Instr.loadAt, Instr.sureAddr, Sem.run_bind, Sem.run_pure, Result.andThen_ok, run_loadVar_row w g t ty cs fr d (hS w hw') hu hd hi]⟩
theorem stp_store_row (hgd : o.guard = none) (ty : TypeId) (x y : Operand) (ho : o.op = .store ty x y)
  (g : Nat) (cells : Array Value) (hx : a.eval x = .pointer (some ⟨g, 0, none⟩)) (hy : a.eval y = .agg cells)
  (t : TypeId) (old : Array Value) (hg : w.heap[g]? = some (.cells old t (0, 0))) (hi : (P.info? ty).map (·.size) = some cells.size)
  (hold : old.size = cells.size) (h1 : cells.all (·.oneCell') = true)
  (h : K (a.put o.dst undef) (w.setRow g cells)) : if Region.wanted o (yielded ops a.tmps) = true then Oper.wp P o a w K Q else E := by
 have hw : Region.wanted o (yielded ops a.tmps) = true := by simp [Region.wanted, hgd]
 rw [if_pos hw]
 exact wp_store_row ty x y ho g cells hx hy t old hg hi hold h1 h
end
theorem sha_len (xs : List Int) : (sha xs).length = 32 := by simp [sha, dig]
theorem cutL_len (d : List Int) (k : Nat) (hl : d.length = 32) (h2 : k ≤ 32) : (cutL d k).length = 32 := cutL_length d k hl h2
end Go.Proofs.YtjdbmjkidljhpaaGreatDoor
namespace Go.Proofs.YtjdbmjkidljhpaaGreatDoor
open Go.RowKit
set_option linter.unusedVariables false
set_option linter.unusedSimpArgs false
set_option maxRecDepth 100000
def Bl.cells (b : Bl) : List Value := b.d.map (Value.int .u8) ++ [b.bv, .int .i64 b.st]
def bls (l : List Bl) : List Value := l.flatMap Bl.cells
/-- The document's Store. -/
structure Rg where
 wd : Int
 cp : Int
 la : Int
 gt : Int
 pt : Int
 l : List Bl
def Rg.cells (ρ : Rg) (lv : Value) : Array Value := #[.int .i64 ρ.wd, .int .i64 ρ.cp, .int .i64 ρ.la, lv, .int .i64 ρ.gt, .int .i64 ρ.pt]
structure BlOk (w : World) (b : Bl) : Prop where
 len : b.d.length = 32
 key : ∀ x ∈ b.d, 0 ≤ x ∧ x < 256
 rng : ∀ x ∈ b.xs, 0 ≤ x ∧ x < 256
 short : b.xs.length ≤ 1048576
 bin : BIn w b.bv b.xs
structure Rst (w : World) (r : Nat) (lv : Value) (ρ : Rg) : Prop where
 blk : w.heap[r]? = some (.cells (ρ.cells lv) 42 (0, 0))
 row : w.ownsRow 0 50 34 lv ρ.l.length (bls ρ.l)
 ok : ∀ b ∈ ρ.l, BlOk w b
 off : ∀ b ∈ ρ.l, b.xs ≠ [] → ∀ g, b.bv.ownBlock = some g → g ≠ r ∧ lv.ownBlock ≠ some g
 few : ρ.l.length ≤ 1000000
def OwnR (r : Nat) (lv : Value) (k : Nat) : Prop := k = r ∨ lv.ownBlock = some k
theorem bl_len {b : Bl} (h : b.d.length = 32) : b.cells.length = 34 := by simp [Bl.cells, h]
theorem bls_len : ∀ {l : List Bl}, (∀ b ∈ l, b.d.length = 32) → (bls l).length = l.length * 34
 | [], _ => rfl
 | b :: l, h => by
  show (b.cells ++ bls l).length = _
  rw [List.length_append, bl_len (h b (List.mem_cons_self ..)), bls_len (fun c hc => h c (List.mem_cons_of_mem _ hc)), List.length_cons]
  omega
theorem bls_at : ∀ {l : List Bl}, (∀ b ∈ l, b.d.length = 32) → ∀ (i : Nat) (b : Bl), l[i]? = some b → ∀ j, j < 34 → (bls l)[i * 34 + j]? = b.cells[j]?
 | [], _, i, b, h, _, _ => by simp at h
 | c :: l, h, 0, b, hb, j, hj => by
  obtain rfl : c = b := by simpa using hb
  show (c.cells ++ bls l)[0 * 34 + j]? = _
  rw [Nat.zero_mul, Nat.zero_add, List.getElem?_append_left (by rw [bl_len (h c (List.mem_cons_self ..))]; exact hj)]
 | c :: l, h, i + 1, b, hb, j, hj => by
  have hc := bl_len (h c (List.mem_cons_self ..))
  show (c.cells ++ bls l)[(i + 1) * 34 + j]? = _
  rw [List.getElem?_append_right (by omega), hc, show (i + 1) * 34 + j - 34 = i * 34 + j by omega]
  exact bls_at (fun x hx => h x (List.mem_cons_of_mem _ hx)) i b (by simpa using hb) j hj
theorem bls_one : ∀ {l : List Bl}, (∀ b ∈ l, b.bv.oneCell' = true) → ∀ u ∈ bls l, u.oneCell' = true
 | [], _, u, hu => by simp [bls] at hu
 | b :: l, h, u, hu => by
  have hu' : u ∈ b.cells ++ bls l := hu
  rcases List.mem_append.1 hu' with hu | hu
  ·simp only [Bl.cells, List.mem_append, List.mem_map, List.mem_cons, List.not_mem_nil, or_false] at hu
   rcases hu with ⟨x, _, rfl⟩ | rfl | rfl
   ·rfl
   ·exact h b (List.mem_cons_self ..)
   ·rfl
  ·exact bls_one (fun c hc => h c (List.mem_cons_of_mem _ hc)) u hu
theorem BIn.one {w : World} {v : Value} {xs : List Int} (h : BIn w v xs) : v.oneCell' = true := by
 obtain ⟨ao, c, rfl, _⟩ := h
 rfl
theorem BIn.form {w : World} {v : Value} {xs : List Int} (h : BIn w v xs) : ∃ ao c, v = .slice ao xs.length c := by
 obtain ⟨ao, c, rfl, _⟩ := h
 exact ⟨ao, c, rfl⟩
theorem row_form {w : World} {B : Nat} {e : TypeId} {s : Nat} {v : Value} {n : Nat} {xs : List Value} (h : w.ownsRow B e s v n xs) : ∃ ao c, v = .slice ao n c := by
 rcases h.2 with ⟨rfl, rfl⟩ | ⟨g, cap, cur, rfl, _⟩
 ·exact ⟨none, 0, rfl⟩
 ·exact ⟨_, _, rfl⟩
theorem row_some {w : World} {B : Nat} {e : TypeId} {s : Nat} {v : Value} {n : Nat} {xs : List Value} (h : w.ownsRow B e s v n xs) (hn : 0 < n) : ∃ g c, v = .slice (some ⟨g, 0, none⟩) n c := by
 rcases h.2 with ⟨rfl, rfl⟩ | ⟨g, cap, cur, rfl, _⟩
 ·omega
 ·exact ⟨_, _, rfl⟩
theorem Rst.k32 {w : World} {r : Nat} {lv : Value} {ρ : Rg} (h : Rst w r lv ρ) : ∀ b ∈ ρ.l, b.d.length = 32 := fun b hb => (h.ok b hb).len
/-- The i-th blob's cells. -/
theorem row_get {w : World} {g n c : Nat} {l : List Bl} (h : w.ownsRow 0 50 34 (.slice (some ⟨g, 0, none⟩) n c) n (bls l)) (h32 : ∀ b ∈ l, b.d.length = 32) {i : Nat} {b : Bl} (hb : l[i]? = some b) : w.rangeAt g (i * 34) b.cells := by
 intro j u hj
 have hl := h32 b (List.mem_of_getElem? hb)
 have hj34 : j < 34 := by have := (List.getElem?_eq_some_iff.1 hj).1; rw [bl_len hl] at this; exact this
 have := h.cells (g := g) rfl (i * 34 + j) u (by rw [bls_at h32 i b hb j hj34]; exact hj)
 rw [Addr.add_lit, Nat.zero_add] at this
 exact this
theorem Bl.range {w : World} {b : Bl} {g o : Nat} (h : b.d.length = 32) (hr : w.rangeAt g o b.cells) : w.rangeAt g o (b.d.map (Value.int .u8)) ∧ w.cell? ⟨g, o + 32, none⟩ = some b.bv ∧ w.cell? ⟨g, o + 33, none⟩ = some (.int .i64 b.st) := by
 refine ⟨fun j u hj => hr j u ?_, hr 32 b.bv ?_, hr 33 _ ?_⟩
 ·unfold Bl.cells
  rw [List.getElem?_append_left (by have := (List.getElem?_eq_some_iff.1 hj).1; exact this)]
  exact hj
 ·unfold Bl.cells
  rw [List.getElem?_append_right (by simp [h])]
  simp [h]
 ·unfold Bl.cells
  rw [List.getElem?_append_right (by simp [h])]
  simp [h]
theorem Rst.lt {w : World} {r : Nat} {lv : Value} {ρ : Rg} (h : Rst w r lv ρ) : r < w.heap.size := heap_lt h.blk
theorem Rst.bl {w : World} {r : Nat} {lv : Value} {ρ : Rg} (h : Rst w r lv ρ) : ∀ q, lv.ownBlock = some q → q < w.heap.size := fun q hq => (h.row.lt q hq).2
theorem BIn.below {w : World} {v : Value} {xs : List Int} (h : BIn w v xs) (hx : xs ≠ []) : ∀ g, v.ownBlock = some g → g < w.heap.size := fun g hg => by
 obtain ⟨i, u, hu⟩ := h.lt hx g hg
 exact World.block_lt_of_cell? _ _ hu
theorem BlOk.kept {S : Nat → Prop} {w w' : World} {b : Bl} (h : BlOk w b) (hk : Kept S w w') (hs : b.xs ≠ [] → ∀ g, b.bv.ownBlock = some g → ¬ S g) : BlOk w' b := ⟨h.len, h.key, h.rng, h.short, h.bin.kept2 hk hs⟩
theorem Rst.kept {S : Nat → Prop} {w w' : World} {r : Nat} {lv : Value} {ρ : Rg} (h : Rst w r lv ρ) (hk : Kept S w w') (h1 : ∀ q, OwnR r lv q → ¬ S q) (h2 : ∀ b ∈ ρ.l, b.xs ≠ [] → ∀ g, b.bv.ownBlock = some g → ¬ S g) : Rst w' r lv ρ :=
 ⟨(hk.block r h.lt (h1 r (.inl rfl))).trans h.blk, hk.ownsRow h.row (fun g hg => h1 g (.inr hg)), fun b hb => (h.ok b hb).kept hk (h2 b hb), h.off, h.few⟩
theorem Rst.same {w w' : World} {r : Nat} {lv : Value} {ρ : Rg} (h : Rst w r lv ρ) (hk : Kept (fun _ => False) w w') : Rst w' r lv ρ := h.kept hk (fun _ _ f => f) (fun _ _ _ _ _ f => f)
theorem Rst.cell {w : World} {r : Nat} {lv : Value} {ρ : Rg} (h : Rst w r lv ρ) (i : Nat) : w.cell? ⟨r, i, none⟩ = (ρ.cells lv)[i]? := cell_block _ _ _ _ _ _ h.blk
theorem Rst.fz {w : World} {r : Nat} {lv : Value} {ρ : Rg} (h : Rst w r lv ρ) (i : Nat) : w.frozen? ⟨r, i, none⟩ = false := frozen_block _ _ _ _ _ h.blk
/-- The row is no block of the Store's own. -/
theorem Rst.apart {w : World} {r : Nat} {lv : Value} {ρ : Rg} (h : Rst w r lv ρ) : lv.ownBlock ≠ some r := fun e => by
 rcases h.row.2 with ⟨rfl, _⟩ | ⟨g, cap, cur, rfl, _, hg, _⟩
 ·cases e
 ·have eg : g = r := Option.some.inj e
  subst eg
  rw [h.blk] at hg
  cases hg
theorem size29 : (Tryz.prog.info? 29).map (·.size) = some 32 := by kernel_rfl
theorem size29_arr (d : List Int) (hd : d.length = 32) : (Tryz.prog.info? 29).map (·.size) = some (d.map (Value.int .u8)).toArray.size := by rw [size29]; simp [hd]
theorem size29_lst (d : List Int) (hd : d.length = 32) : (Tryz.prog.info? 29).map (·.size) = some (d.map (Value.int .u8)).length := by rw [size29]; simp [hd]
end Go.Proofs.YtjdbmjkidljhpaaGreatDoor

/-
  A Script in memory.
-/
import Derived.Test.YtffabihenhejfaaPlay
import Derived.Test.YtffabihenhejfaaSheet
namespace Go.Proofs.Ytffabihenhejfaa
open Go.RowKit
set_option linter.unusedVariables false

def ptrV (b : Nat) : Value := .pointer (some ⟨b, 0, none⟩)

/-- A Script: its block, its four rows, what was told; κ names what a block is for. -/
structure Rep (w : World) (κ : Nat → Nat) (sb : Nat) (callsV : Value) (rb kb gs : List Nat) (rV kV tV eV : Value) (told : List ItV) (s : PS) : Prop where
  blk : w.heap[sb]? = some (.cells #[callsV, .int .i64 (s.pos : Int), rV, kV, tV, eV, .bool false] 38 (0, 0))
  rrow : w.ownsRow 0 56 1 rV rb.length (rb.map ptrV)
  krow : w.ownsRow 0 56 1 kV kb.length (kb.map ptrV)
  trow : w.ownsRow 0 54 3 tV told.length (told.flatMap ItV.cells)
  erow : w.ownsRow 0 43 1 eV s.rets.length (s.rets.map (Value.int .i64))
  c1 : κ sb = 1
  c2 : ∀ q, rV.ownBlock = some q → κ q = 2
  c3 : ∀ q, kV.ownBlock = some q → κ q = 3
  c4 : ∀ q, tV.ownBlock = some q → κ q = 4
  c5 : ∀ q, eV.ownBlock = some q → κ q = 5
  c6 : ∀ b, b ∈ kb → κ b = 6 ∧ b < w.heap.size
  c7 : ∀ g, g ∈ gs → κ g = 7 ∧ g < w.heap.size
  nk : kb.Nodup
  nr : rb.Nodup
  sub : ∀ b, b ∈ rb → b ∈ kb
  klen : kb.length = s.many
  tmap : told.map (fun y => (y.k, y.n, y.xs)) = s.told
  tis : ∀ i, i < told.length → IsB w (told.getD i ItV.default).bv (told.getD i ItV.default).xs
  c8 : ∀ i, i < told.length → ∀ q, (told.getD i ItV.default).bv.ownBlock = some q → κ q = 8 ∧ q < w.heap.size

section
variable {w w' : World} {κ κ' : Nat → Nat} {sb : Nat} {callsV : Value} {rb kb gs : List Nat} {rV kV tV eV : Value} {told : List ItV} {s : PS}

theorem Rep.lt (h : Rep w κ sb callsV rb kb gs rV kV tV eV told s) : sb < w.heap.size := (Array.getElem?_eq_some_iff.1 h.blk).1

/-- Blocks that are no Script's turn; names of new blocks are given. -/
theorem Rep.kept {S : Nat → Prop} (h : Rep w κ sb callsV rb kb gs rV kV tV eV told s) (hk : Kept S w w') (hS : ∀ q, q < w.heap.size → S q → κ q = 6 ∨ κ q = 7 ∨ κ q = 0) (ha : ∀ q, q < w.heap.size → κ' q = κ q) : Rep w' κ' sb callsV rb kb gs rV kV tV eV told s := by
  have hs := hk.size
  have row : ∀ {e z : Nat} {v : Value} {n : Nat} {l : List Value} (c : Nat), w.ownsRow 0 e z v n l → (∀ q, v.ownBlock = some q → κ q = c) → c ≠ 6 → c ≠ 7 → c ≠ 0 → w'.ownsRow 0 e z v n l ∧ ∀ q, v.ownBlock = some q → κ' q = c := fun c ho hc h6 h7 h0 =>
    ⟨hk.ownsRow ho (fun q hq e => by rcases hS q (ho.lt q hq).2 e with h | h | h <;> rw [hc q hq] at h <;> omega), fun q hq => by rw [ha q (ho.lt q hq).2]; exact hc q hq⟩
  obtain ⟨r1, r2⟩ := row 2 h.rrow h.c2 (by decide) (by decide) (by decide)
  obtain ⟨k1, k2⟩ := row 3 h.krow h.c3 (by decide) (by decide) (by decide)
  obtain ⟨t1, t2⟩ := row 4 h.trow h.c4 (by decide) (by decide) (by decide)
  obtain ⟨e1, e2⟩ := row 5 h.erow h.c5 (by decide) (by decide) (by decide)
  refine ⟨(hk.block sb h.lt (fun e => ?_)).trans h.blk, r1, k1, t1, e1, by rw [ha sb h.lt]; exact h.c1, r2, k2, t2, e2, fun b hb => ⟨by rw [ha b (h.c6 b hb).2]; exact (h.c6 b hb).1, Nat.lt_of_lt_of_le (h.c6 b hb).2 hs⟩, fun g hg => ⟨by rw [ha g (h.c7 g hg).2]; exact (h.c7 g hg).1, Nat.lt_of_lt_of_le (h.c7 g hg).2 hs⟩, h.nk, h.nr, h.sub, h.klen, h.tmap, fun i hi => (h.tis i hi).kept hk (fun q hq e => ?_), fun i hi q hq => ⟨by rw [ha q (h.c8 i hi q hq).2]; exact (h.c8 i hi q hq).1, Nat.lt_of_lt_of_le (h.c8 i hi q hq).2 hs⟩⟩
  · rcases hS sb h.lt e with h' | h' | h' <;> rw [h.c1] at h' <;> omega
  · rcases hS q (h.c8 i hi q hq).2 e with h' | h' | h' <;> rw [(h.c8 i hi q hq).1] at h' <;> omega

theorem Rep.new (h : Rep w κ sb callsV rb kb gs rV kV tV eV told s) (hk : Kept (fun _ => False) w w') : Rep w' κ sb callsV rb kb gs rV kV tV eV told s :=
  h.kept hk (fun _ _ f => f.elim) (fun _ _ => rfl)

theorem Rep.cells (h : Rep w κ sb callsV rb kb gs rV kV tV eV told s) : w.cell? ⟨sb, 0, none⟩ = some callsV ∧ w.cell? ⟨sb, 1, none⟩ = some (.int .i64 (s.pos : Int)) ∧ w.cell? ⟨sb, 2, none⟩ = some rV ∧ w.cell? ⟨sb, 3, none⟩ = some kV ∧ w.cell? ⟨sb, 4, none⟩ = some tV ∧ w.cell? ⟨sb, 5, none⟩ = some eV ∧ w.cell? ⟨sb, 6, none⟩ = some (.bool false) :=
  ⟨by rw [cell_block _ _ _ _ _ _ h.blk]; rfl, by rw [cell_block _ _ _ _ _ _ h.blk]; rfl, by rw [cell_block _ _ _ _ _ _ h.blk]; rfl, by rw [cell_block _ _ _ _ _ _ h.blk]; rfl, by rw [cell_block _ _ _ _ _ _ h.blk]; rfl, by rw [cell_block _ _ _ _ _ _ h.blk]; rfl, by rw [cell_block _ _ _ _ _ _ h.blk]; rfl⟩
theorem Rep.frozen (h : Rep w κ sb callsV rb kb gs rV kV tV eV told s) (o : Nat) : w.frozen? ⟨sb, o, none⟩ = false := frozen_block _ _ _ _ _ h.blk

/-- The names behind an append. -/
def named (κ : Nat → Nat) (v : Value) (c : Nat) : Nat → Nat := fun q => if v.ownBlock = some q then c else κ q

theorem named_old {κ : Nat → Nat} {v v' : Value} {c : Nat} {w : World} (hc : ∀ q, v.ownBlock = some q → κ q = c) (hat : v'.ownBlock = v.ownBlock ∨ ∀ q, v'.ownBlock = some q → w.heap.size ≤ q) : ∀ q, q < w.heap.size → named κ v' c q = κ q := by
  intro q hq
  unfold named
  by_cases h : v'.ownBlock = some q
  · rw [if_pos h]
    rcases hat with e | e
    · rw [e] at h; exact (hc q h).symm
    · have := e q h; omega
  · rw [if_neg h]

theorem named_new {κ : Nat → Nat} {v' : Value} {c : Nat} : ∀ q, v'.ownBlock = some q → named κ v' c q = c := fun q hq => by unfold named; rw [if_pos hq]

/-- A step that turns one row of a Script (of class c), and lays it into the field o. -/
theorem Rep.others (h : Rep w κ sb callsV rb kb gs rV kV tV eV told s) {v : Value} {c : Nat} (hc : ∀ q, v.ownBlock = some q → κ q = c) (hk : Kept (fun q => v.ownBlock = some q) w w') (hc8 : c ≠ 8) (hc1 : c ≠ 1) :
    (c ≠ 2 → w'.ownsRow 0 56 1 rV rb.length (rb.map ptrV)) ∧ (c ≠ 3 → w'.ownsRow 0 56 1 kV kb.length (kb.map ptrV)) ∧ (c ≠ 4 → w'.ownsRow 0 54 3 tV told.length (told.flatMap ItV.cells)) ∧ (c ≠ 5 → w'.ownsRow 0 43 1 eV s.rets.length (s.rets.map (Value.int .i64))) ∧
      w'.heap[sb]? = some (.cells #[callsV, .int .i64 (s.pos : Int), rV, kV, tV, eV, .bool false] 38 (0, 0)) ∧ ∀ i, i < told.length → IsB w' (told.getD i ItV.default).bv (told.getD i ItV.default).xs :=
  ⟨fun hn => hk.ownsRow h.rrow (fun q hq e => by have := h.c2 q hq; rw [hc q e] at this; omega), fun hn => hk.ownsRow h.krow (fun q hq e => by have := h.c3 q hq; rw [hc q e] at this; omega), fun hn => hk.ownsRow h.trow (fun q hq e => by have := h.c4 q hq; rw [hc q e] at this; omega), fun hn => hk.ownsRow h.erow (fun q hq e => by have := h.c5 q hq; rw [hc q e] at this; omega),
   (hk.block sb h.lt (fun e => by have := h.c1; rw [hc sb e] at this; omega)).trans h.blk, fun i hi => (h.tis i hi).kept hk (fun q hq e => by have := (h.c8 i hi q hq).1; rw [hc q e] at this; omega)⟩

/-- One thing more is told. -/
theorem Rep.tell (h : Rep w κ sb callsV rb kb gs rV kV tV eV told s) {w5 : World} {tV' : Value} {y : ItV} (hy : IsB w y.bv y.xs) (hy8 : ∀ q, y.bv.ownBlock = some q → κ q = 8 ∧ q < w.heap.size)
    (hown : w5.ownsRow 0 54 3 tV' (told.length + 1) (told.flatMap ItV.cells ++ y.cells)) (hk : Kept (fun q => tV.ownBlock = some q) w w5) (hat : tV'.ownBlock = tV.ownBlock ∨ ∀ q, tV'.ownBlock = some q → w.heap.size ≤ q) :
    Rep (w5.setCell ⟨sb, 4, none⟩ tV') (named κ tV' 4) sb callsV rb kb gs rV kV tV' eV (told ++ [y]) { s with told := s.told ++ [(y.k, y.n, y.xs)] } ∧ Kept (fun q => κ q = 1 ∨ κ q = 4) w (w5.setCell ⟨sb, 4, none⟩ tV') ∧ (∀ q, q < w.heap.size → named κ tV' 4 q = κ q) := by
  have hna := named_old (w := w) h.c4 hat
  obtain ⟨o1, o2, _, o4, o5, o6⟩ := h.others h.c4 hk (by decide) (by decide)
  have hs := hk.size
  have hlt := h.lt
  have hks := kept_set w5 sb 4 tV'
  have hne : ∀ {c : Nat} {v : Value}, (∀ q, v.ownBlock = some q → κ q = c) → c ≠ 1 → ∀ q, v.ownBlock = some q → q ≠ sb := fun hc h1 q hq e => by subst e; have := h.c1; rw [hc _ hq] at this; exact h1 this
  have hsize : (w5.setCell ⟨sb, 4, none⟩ tV').heap.size = w5.heap.size := by simp
  refine ⟨⟨by rw [set_block _ _ _ _ _ _ o5]; rfl, hks.ownsRow (o1 (by decide)) (hne h.c2 (by decide)), hks.ownsRow (o2 (by decide)) (hne h.c3 (by decide)), ?_, hks.ownsRow (o4 (by decide)) (hne h.c5 (by decide)), by rw [hna sb hlt]; exact h.c1,
    fun q hq => by rw [hna q (h.rrow.lt q hq).2]; exact h.c2 q hq, fun q hq => by rw [hna q (h.krow.lt q hq).2]; exact h.c3 q hq, named_new, fun q hq => by rw [hna q (h.erow.lt q hq).2]; exact h.c5 q hq,
    fun b hb => ⟨by rw [hna b (h.c6 b hb).2]; exact (h.c6 b hb).1, by rw [hsize]; exact Nat.lt_of_lt_of_le (h.c6 b hb).2 hs⟩, fun g hg => ⟨by rw [hna g (h.c7 g hg).2]; exact (h.c7 g hg).1, by rw [hsize]; exact Nat.lt_of_lt_of_le (h.c7 g hg).2 hs⟩, h.nk, h.nr, h.sub, h.klen, by rw [List.map_append, h.tmap]; rfl, fun i hi => ?_, fun i hi q hq => ?_⟩, ?_, hna⟩
  · refine hks.ownsRow ?_ (fun q hq e => ?_)
    · rw [List.length_append, List.flatMap_append]
      simpa using hown
    · subst e
      rcases hat with e' | e'
      · rw [e'] at hq; have := h.c4 q hq; rw [h.c1] at this; omega
      · have := e' q hq; omega
  · rw [List.length_append] at hi
    rw [getD_snoc told y i hi]
    by_cases e : i = told.length
    · rw [if_pos e]
      exact (hy.kept hk (fun q hq e => by have := (hy8 q hq).1; rw [h.c4 q e] at this; omega)).kept hks (fun q hq e => by subst e; have := (hy8 q hq).1; rw [h.c1] at this; omega)
    · rw [if_neg e]
      have hi' : i < told.length := by simp at hi; omega
      exact (o6 i hi').kept hks (fun q hq e => by subst e; have := (h.c8 i hi' q hq).1; rw [h.c1] at this; omega)
  · rw [List.length_append] at hi
    rw [getD_snoc told y i hi] at hq
    rw [hsize]
    by_cases e : i = told.length
    · rw [if_pos e] at hq
      exact ⟨by rw [hna q (hy8 q hq).2]; exact (hy8 q hq).1, Nat.lt_of_lt_of_le (hy8 q hq).2 hs⟩
    · rw [if_neg e] at hq
      have hi' : i < told.length := by simp at hi; omega
      exact ⟨by rw [hna q (h.c8 i hi' q hq).2]; exact (h.c8 i hi' q hq).1, Nat.lt_of_lt_of_le (h.c8 i hi' q hq).2 hs⟩
  · exact (hk.mono (fun q hq e => .inr (h.c4 q e))).step hks (fun q hq e => by subst e; exact .inl h.c1)

theorem Rep.setrs (h : Rep w κ sb callsV rb kb gs rV kV tV eV told s) (rs' : List (List Int)) : Rep w κ sb callsV rb kb gs rV kV tV eV told { s with rs := rs' } :=
  ⟨h.blk, h.rrow, h.krow, h.trow, h.erow, h.c1, h.c2, h.c3, h.c4, h.c5, h.c6, h.c7, h.nk, h.nr, h.sub, h.klen, h.tmap, h.tis, h.c8⟩
end
end Go.Proofs.Ytffabihenhejfaa

/-
  Rpa: Rpl, Rpv, Rpr.
-/
import Derived.Test.YtffabihenhejfaaScall
import Derived.Test.YtffabihenhejfaaSra
import Derived.Test.YtffabihenhejfaaRfa
namespace Go.Proofs.Ytffabihenhejfaa
open Go.RowKit
set_option linter.unusedVariables false

/-- A Plain: its block, its three rows, what was told; κ names what a block is for. -/
structure RepP (w : World) (κ : Nat → Nat) (sb : Nat) (callsV : Value) (rb : List Nat) (rV tV eV : Value) (told : List ItV) (s : PS) : Prop where
  blk : w.heap[sb]? = some (.cells #[callsV, .int .i64 (s.pos : Int), rV, tV, eV, .int .i64 (s.many : Int)] 51 (0, 0))
  rrow : w.ownsRow 0 88 1 rV rb.length (rb.map ptrV)
  trow : w.ownsRow 0 54 3 tV told.length (told.flatMap ItV.cells)
  erow : w.ownsRow 0 3 1 eV s.rets.length (s.rets.map (Value.int .i64))
  c1 : κ sb = 1
  c2 : ∀ q, rV.ownBlock = some q → κ q = 2
  c4 : ∀ q, tV.ownBlock = some q → κ q = 4
  c5 : ∀ q, eV.ownBlock = some q → κ q = 5
  c6 : ∀ b, b ∈ rb → κ b = 6 ∧ b < w.heap.size
  nr : rb.Nodup
  tmap : told.map (fun y => (y.k, y.n, y.xs)) = s.told
  tis : ∀ i, i < told.length → IsB w (told.getD i ItV.default).bv (told.getD i ItV.default).xs
  c8 : ∀ i, i < told.length → ∀ q, (told.getD i ItV.default).bv.ownBlock = some q → κ q = 8 ∧ q < w.heap.size

section
variable {w w' : World} {κ κ' : Nat → Nat} {sb : Nat} {callsV : Value} {rb : List Nat} {rV tV eV : Value} {told : List ItV} {s : PS}

theorem RepP.lt (h : RepP w κ sb callsV rb rV tV eV told s) : sb < w.heap.size := (Array.getElem?_eq_some_iff.1 h.blk).1

/-- Blocks that are no Plain's turn; names of new blocks are given. -/
theorem RepP.kept {S : Nat → Prop} (h : RepP w κ sb callsV rb rV tV eV told s) (hk : Kept S w w') (hS : ∀ q, q < w.heap.size → S q → κ q = 6 ∨ κ q = 0) (ha : ∀ q, q < w.heap.size → κ' q = κ q) : RepP w' κ' sb callsV rb rV tV eV told s := by
  have hs := hk.size
  have row : ∀ {e z : Nat} {v : Value} {n : Nat} {l : List Value} (c : Nat), w.ownsRow 0 e z v n l → (∀ q, v.ownBlock = some q → κ q = c) → c ≠ 6 → c ≠ 0 → w'.ownsRow 0 e z v n l ∧ ∀ q, v.ownBlock = some q → κ' q = c := fun c ho hc h6 h0 =>
    ⟨hk.ownsRow ho (fun q hq e => by rcases hS q (ho.lt q hq).2 e with h | h <;> rw [hc q hq] at h <;> omega), fun q hq => by rw [ha q (ho.lt q hq).2]; exact hc q hq⟩
  obtain ⟨r1, r2⟩ := row 2 h.rrow h.c2 (by decide) (by decide)
  obtain ⟨t1, t2⟩ := row 4 h.trow h.c4 (by decide) (by decide)
  obtain ⟨e1, e2⟩ := row 5 h.erow h.c5 (by decide) (by decide)
  refine ⟨(hk.block sb h.lt (fun e => ?_)).trans h.blk, r1, t1, e1, by rw [ha sb h.lt]; exact h.c1, r2, t2, e2, fun b hb => ⟨by rw [ha b (h.c6 b hb).2]; exact (h.c6 b hb).1, Nat.lt_of_lt_of_le (h.c6 b hb).2 hs⟩, h.nr, h.tmap, fun i hi => (h.tis i hi).kept hk (fun q hq e => ?_), fun i hi q hq => ⟨by rw [ha q (h.c8 i hi q hq).2]; exact (h.c8 i hi q hq).1, Nat.lt_of_lt_of_le (h.c8 i hi q hq).2 hs⟩⟩
  · rcases hS sb h.lt e with h' | h' <;> rw [h.c1] at h' <;> omega
  · rcases hS q (h.c8 i hi q hq).2 e with h' | h' <;> rw [(h.c8 i hi q hq).1] at h' <;> omega

theorem RepP.new (h : RepP w κ sb callsV rb rV tV eV told s) (hk : Kept (fun _ => False) w w') : RepP w' κ sb callsV rb rV tV eV told s :=
  h.kept hk (fun _ _ f => f.elim) (fun _ _ => rfl)

theorem RepP.cells (h : RepP w κ sb callsV rb rV tV eV told s) : w.cell? ⟨sb, 0, none⟩ = some callsV ∧ w.cell? ⟨sb, 1, none⟩ = some (.int .i64 (s.pos : Int)) ∧ w.cell? ⟨sb, 2, none⟩ = some rV ∧ w.cell? ⟨sb, 3, none⟩ = some tV ∧ w.cell? ⟨sb, 4, none⟩ = some eV ∧ w.cell? ⟨sb, 5, none⟩ = some (.int .i64 (s.many : Int)) :=
  ⟨by rw [cell_block _ _ _ _ _ _ h.blk]; rfl, by rw [cell_block _ _ _ _ _ _ h.blk]; rfl, by rw [cell_block _ _ _ _ _ _ h.blk]; rfl, by rw [cell_block _ _ _ _ _ _ h.blk]; rfl, by rw [cell_block _ _ _ _ _ _ h.blk]; rfl, by rw [cell_block _ _ _ _ _ _ h.blk]; rfl⟩
theorem RepP.frozen (h : RepP w κ sb callsV rb rV tV eV told s) (o : Nat) : w.frozen? ⟨sb, o, none⟩ = false := frozen_block _ _ _ _ _ h.blk

/-- A step that turns one row of a Plain (of class c). -/
theorem RepP.others (h : RepP w κ sb callsV rb rV tV eV told s) {v : Value} {c : Nat} (hc : ∀ q, v.ownBlock = some q → κ q = c) (hk : Kept (fun q => v.ownBlock = some q) w w') (hc8 : c ≠ 8) (hc1 : c ≠ 1) :
    (c ≠ 2 → w'.ownsRow 0 88 1 rV rb.length (rb.map ptrV)) ∧ (c ≠ 4 → w'.ownsRow 0 54 3 tV told.length (told.flatMap ItV.cells)) ∧ (c ≠ 5 → w'.ownsRow 0 3 1 eV s.rets.length (s.rets.map (Value.int .i64))) ∧
      w'.heap[sb]? = some (.cells #[callsV, .int .i64 (s.pos : Int), rV, tV, eV, .int .i64 (s.many : Int)] 51 (0, 0)) ∧ ∀ i, i < told.length → IsB w' (told.getD i ItV.default).bv (told.getD i ItV.default).xs :=
  ⟨fun hn => hk.ownsRow h.rrow (fun q hq e => by have := h.c2 q hq; rw [hc q e] at this; omega), fun hn => hk.ownsRow h.trow (fun q hq e => by have := h.c4 q hq; rw [hc q e] at this; omega), fun hn => hk.ownsRow h.erow (fun q hq e => by have := h.c5 q hq; rw [hc q e] at this; omega),
   (hk.block sb h.lt (fun e => by have := h.c1; rw [hc sb e] at this; omega)).trans h.blk, fun i hi => (h.tis i hi).kept hk (fun q hq e => by have := (h.c8 i hi q hq).1; rw [hc q e] at this; omega)⟩

theorem RepP.base (h : RepP w κ sb callsV rb rV tV eV told s) : ∀ {c : Nat} {v : Value}, (∀ q, v.ownBlock = some q → κ q = c) → c ≠ 1 → ∀ q, v.ownBlock = some q → q ≠ sb := fun hc h1 q hq e => by subst e; have := h.c1; rw [hc _ hq] at this; exact h1 this

/-- One thing more is told. -/
theorem RepP.tell (h : RepP w κ sb callsV rb rV tV eV told s) {w5 : World} {tV' : Value} {y : ItV} (hy : IsB w y.bv y.xs) (hy8 : ∀ q, y.bv.ownBlock = some q → κ q = 8 ∧ q < w.heap.size)
    (hown : w5.ownsRow 0 54 3 tV' (told.length + 1) (told.flatMap ItV.cells ++ y.cells)) (hk : Kept (fun q => tV.ownBlock = some q) w w5) (hat : tV'.ownBlock = tV.ownBlock ∨ ∀ q, tV'.ownBlock = some q → w.heap.size ≤ q) :
    RepP (w5.setCell ⟨sb, 3, none⟩ tV') (named κ tV' 4) sb callsV rb rV tV' eV (told ++ [y]) { s with told := s.told ++ [(y.k, y.n, y.xs)] } ∧ Kept (fun q => κ q = 1 ∨ κ q = 4) w (w5.setCell ⟨sb, 3, none⟩ tV') ∧ (∀ q, q < w.heap.size → named κ tV' 4 q = κ q) := by
  have hna := named_old (w := w) h.c4 hat
  obtain ⟨o1, _, o4, o5, o6⟩ := h.others h.c4 hk (by decide) (by decide)
  have hs := hk.size
  have hlt := h.lt
  have hks := kept_set w5 sb 3 tV'
  have hne := fun {c : Nat} {v : Value} => h.base (c := c) (v := v)
  have hsize : (w5.setCell ⟨sb, 3, none⟩ tV').heap.size = w5.heap.size := by simp
  refine ⟨⟨by rw [set_block _ _ _ _ _ _ o5]; rfl, hks.ownsRow (o1 (by decide)) (hne h.c2 (by decide)), ?_, hks.ownsRow (o4 (by decide)) (hne h.c5 (by decide)), by rw [hna sb hlt]; exact h.c1,
    fun q hq => by rw [hna q (h.rrow.lt q hq).2]; exact h.c2 q hq, named_new, fun q hq => by rw [hna q (h.erow.lt q hq).2]; exact h.c5 q hq,
    fun b hb => ⟨by rw [hna b (h.c6 b hb).2]; exact (h.c6 b hb).1, by rw [hsize]; exact Nat.lt_of_lt_of_le (h.c6 b hb).2 hs⟩, h.nr, by rw [List.map_append, h.tmap]; rfl, fun i hi => ?_, fun i hi q hq => ?_⟩, ?_, hna⟩
  · refine hks.ownsRow ?_ (fun q hq e => ?_)
    · rw [List.length_append, List.flatMap_append]
      simpa using hown
    · subst e
      rcases hat with e' | e'
      · rw [e'] at hq; have := h.c4 q hq; rw [h.c1] at this; omega
      · have := e' q hq; omega
  · rw [List.length_append] at hi
    rw [getD_snoc told y i hi]
    by_cases e : i = told.length
    · rw [if_pos e]
      exact (hy.kept hk (fun q hq e => by have := (hy8 q hq).1; rw [h.c4 q e] at this; omega)).kept hks (fun q hq e => by subst e; have := (hy8 q hq).1; rw [h.c1] at this; omega)
    · rw [if_neg e]
      have hi' : i < told.length := by simp at hi; omega
      exact (o6 i hi').kept hks (fun q hq e => by subst e; have := (h.c8 i hi' q hq).1; rw [h.c1] at this; omega)
  · rw [List.length_append] at hi
    rw [getD_snoc told y i hi] at hq
    rw [hsize]
    by_cases e : i = told.length
    · rw [if_pos e] at hq
      exact ⟨by rw [hna q (hy8 q hq).2]; exact (hy8 q hq).1, Nat.lt_of_lt_of_le (hy8 q hq).2 hs⟩
    · rw [if_neg e] at hq
      have hi' : i < told.length := by simp at hi; omega
      exact ⟨by rw [hna q (h.c8 i hi' q hq).2]; exact (h.c8 i hi' q hq).1, Nat.lt_of_lt_of_le (h.c8 i hi' q hq).2 hs⟩
  · exact (hk.mono (fun q hq e => .inr (h.c4 q e))).step hks (fun q hq e => by subst e; exact .inl h.c1)

theorem RepP.setrs (h : RepP w κ sb callsV rb rV tV eV told s) (rs' : List (List Int)) : RepP w κ sb callsV rb rV tV eV told { s with rs := rs' } :=
  ⟨h.blk, h.rrow, h.trow, h.erow, h.c1, h.c2, h.c4, h.c5, h.c6, h.nr, h.tmap, h.tis, h.c8⟩

/-- A call is taken. -/
theorem RepP.next (h : RepP w κ sb callsV rb rV tV eV told s) : RepP (w.setCell ⟨sb, 1, none⟩ (.int .i64 ((s.pos + 1 : Nat) : Int))) κ sb callsV rb rV tV eV told { s with pos := s.pos + 1 } ∧ Kept (fun q => κ q = 1) w (w.setCell ⟨sb, 1, none⟩ (.int .i64 ((s.pos + 1 : Nat) : Int))) := by
  have hks := kept_set w sb 1 (.int .i64 ((s.pos + 1 : Nat) : Int))
  have hne := fun {c : Nat} {v : Value} => h.base (c := c) (v := v)
  have hsz : (w.setCell ⟨sb, 1, none⟩ (.int .i64 ((s.pos + 1 : Nat) : Int))).heap.size = w.heap.size := by simp
  refine ⟨⟨by rw [set_block _ _ _ _ _ _ h.blk]; rfl, hks.ownsRow h.rrow (hne h.c2 (by decide)), hks.ownsRow h.trow (hne h.c4 (by decide)), hks.ownsRow h.erow (hne h.c5 (by decide)), h.c1, h.c2, h.c4, h.c5, fun b hb => ⟨(h.c6 b hb).1, by rw [hsz]; exact (h.c6 b hb).2⟩, h.nr, h.tmap, fun i hi => (h.tis i hi).kept hks (fun q hq e => ?_), fun i hi q hq => ⟨(h.c8 i hi q hq).1, by rw [hsz]; exact (h.c8 i hi q hq).2⟩⟩, hks.mono (fun q hq e => by rw [e]; exact h.c1)⟩
  subst e
  have := (h.c8 i hi q hq).1
  rw [h.c1] at this
  omega

/-- An inner Read has answered. -/
theorem RepP.ret (h : RepP w κ sb callsV rb rV tV eV told s) {w5 : World} {eV' : Value} {x : Int} (hown : w5.ownsRow 0 3 1 eV' (s.rets.length + 1) (s.rets.map (Value.int .i64) ++ [.int .i64 x])) (hk : Kept (fun q => eV.ownBlock = some q) w w5) (hat : eV'.ownBlock = eV.ownBlock ∨ ∀ q, eV'.ownBlock = some q → w.heap.size ≤ q) :
    RepP (w5.setCell ⟨sb, 4, none⟩ eV') (named κ eV' 5) sb callsV rb rV tV eV' told { s with rets := s.rets ++ [x] } ∧ Kept (fun q => κ q = 1 ∨ κ q = 5) w (w5.setCell ⟨sb, 4, none⟩ eV') ∧ (∀ q, q < w.heap.size → named κ eV' 5 q = κ q) := by
  have hna := named_old (w := w) h.c5 hat
  obtain ⟨o1, o3, _, o5, o6⟩ := h.others h.c5 hk (by decide) (by decide)
  have hs := hk.size
  have hlt := h.lt
  have hks := kept_set w5 sb 4 eV'
  have hne := fun {c : Nat} {v : Value} => h.base (c := c) (v := v)
  have hsize : (w5.setCell ⟨sb, 4, none⟩ eV').heap.size = w5.heap.size := by simp
  refine ⟨⟨by rw [set_block _ _ _ _ _ _ o5]; rfl, hks.ownsRow (o1 (by decide)) (hne h.c2 (by decide)), hks.ownsRow (o3 (by decide)) (hne h.c4 (by decide)), ?_, by rw [hna sb hlt]; exact h.c1,
    fun q hq => by rw [hna q (h.rrow.lt q hq).2]; exact h.c2 q hq, fun q hq => by rw [hna q (h.trow.lt q hq).2]; exact h.c4 q hq, named_new,
    fun b hb => ⟨by rw [hna b (h.c6 b hb).2]; exact (h.c6 b hb).1, by rw [hsize]; exact Nat.lt_of_lt_of_le (h.c6 b hb).2 hs⟩, h.nr, h.tmap, fun i hi => ?_, fun i hi q hq => ?_⟩, ?_, hna⟩
  · refine hks.ownsRow ?_ (fun q hq e => ?_)
    · rw [List.length_append, List.map_append]
      simpa using hown
    · subst e
      rcases hat with e' | e'
      · rw [e'] at hq; have := h.c5 q hq; rw [h.c1] at this; omega
      · have := e' q hq; omega
  · exact (o6 i hi).kept hks (fun q hq e => by subst e; have := (h.c8 i hi q hq).1; rw [h.c1] at this; omega)
  · rw [hsize]
    exact ⟨by rw [hna q (h.c8 i hi q hq).2]; exact (h.c8 i hi q hq).1, Nat.lt_of_lt_of_le (h.c8 i hi q hq).2 hs⟩
  · exact (hk.mono (fun q hq e => .inr (h.c5 q e))).step hks (fun q hq e => by subst e; exact .inl h.c1)

/-- A Reader is put behind the Readers of the stack. -/
theorem RepP.pushR (h : RepP w κ sb callsV rb rV tV eV told s) {w5 : World} {rV' : Value} {r : Nat} (hr : κ r = 6 ∧ r < w.heap.size) (hrn : r ∉ rb) (hown : w5.ownsRow 0 88 1 rV' (rb.length + 1) (rb.map ptrV ++ [ptrV r])) (hk : Kept (fun q => rV.ownBlock = some q) w w5) (hat : rV'.ownBlock = rV.ownBlock ∨ ∀ q, rV'.ownBlock = some q → w.heap.size ≤ q) :
    RepP (w5.setCell ⟨sb, 2, none⟩ rV') (named κ rV' 2) sb callsV (rb ++ [r]) rV' tV eV told s ∧ Kept (fun q => κ q = 1 ∨ κ q = 2) w (w5.setCell ⟨sb, 2, none⟩ rV') ∧ (∀ q, q < w.heap.size → named κ rV' 2 q = κ q) := by
  have hna := named_old (w := w) h.c2 hat
  obtain ⟨_, o3, o4, o5, o6⟩ := h.others h.c2 hk (by decide) (by decide)
  have hs := hk.size
  have hlt := h.lt
  have hks := kept_set w5 sb 2 rV'
  have hne := fun {c : Nat} {v : Value} => h.base (c := c) (v := v)
  have hsize : (w5.setCell ⟨sb, 2, none⟩ rV').heap.size = w5.heap.size := by simp
  refine ⟨⟨by rw [set_block _ _ _ _ _ _ o5]; rfl, ?_, hks.ownsRow (o3 (by decide)) (hne h.c4 (by decide)), hks.ownsRow (o4 (by decide)) (hne h.c5 (by decide)), by rw [hna sb hlt]; exact h.c1,
    named_new, fun q hq => by rw [hna q (h.trow.lt q hq).2]; exact h.c4 q hq, fun q hq => by rw [hna q (h.erow.lt q hq).2]; exact h.c5 q hq,
    fun b hb => ?_, ?_, h.tmap, fun i hi => ?_, fun i hi q hq => ?_⟩, ?_, hna⟩
  · refine hks.ownsRow ?_ (fun q hq e => ?_)
    · rw [List.length_append, List.map_append]
      simpa using hown
    · subst e
      rcases hat with e' | e'
      · rw [e'] at hq; have := h.c2 q hq; rw [h.c1] at this; omega
      · have := e' q hq; omega
  · rw [hsize]
    rcases List.mem_append.1 hb with h' | h'
    · exact ⟨by rw [hna b (h.c6 b h').2]; exact (h.c6 b h').1, Nat.lt_of_lt_of_le (h.c6 b h').2 hs⟩
    · rw [List.mem_singleton.1 h']
      exact ⟨by rw [hna r hr.2]; exact hr.1, Nat.lt_of_lt_of_le hr.2 hs⟩
  · rw [List.nodup_append]
    exact ⟨h.nr, by simp, fun a ha b hb e => by rw [List.mem_singleton] at hb; subst hb; subst e; exact hrn ha⟩
  · exact (o6 i hi).kept hks (fun q hq e => by subst e; have := (h.c8 i hi q hq).1; rw [h.c1] at this; omega)
  · rw [hsize]
    exact ⟨by rw [hna q (h.c8 i hi q hq).2]; exact (h.c8 i hi q hq).1, Nat.lt_of_lt_of_le (h.c8 i hi q hq).2 hs⟩
  · exact (hk.mono (fun q hq e => .inr (h.c2 q e))).step hks (fun q hq e => by subst e; exact .inl h.c1)

/-- One Reader more is counted. -/
theorem RepP.count (h : RepP w κ sb callsV rb rV tV eV told s) : RepP (w.setCell ⟨sb, 5, none⟩ (.int .i64 ((s.many + 1 : Nat) : Int))) κ sb callsV rb rV tV eV told { s with many := s.many + 1 } ∧ Kept (fun q => κ q = 1) w (w.setCell ⟨sb, 5, none⟩ (.int .i64 ((s.many + 1 : Nat) : Int))) := by
  have hks := kept_set w sb 5 (.int .i64 ((s.many + 1 : Nat) : Int))
  have hne := fun {c : Nat} {v : Value} => h.base (c := c) (v := v)
  have hsz : (w.setCell ⟨sb, 5, none⟩ (.int .i64 ((s.many + 1 : Nat) : Int))).heap.size = w.heap.size := by simp
  refine ⟨⟨by rw [set_block _ _ _ _ _ _ h.blk]; rfl, hks.ownsRow h.rrow (hne h.c2 (by decide)), hks.ownsRow h.trow (hne h.c4 (by decide)), hks.ownsRow h.erow (hne h.c5 (by decide)), h.c1, h.c2, h.c4, h.c5, fun b hb => ⟨(h.c6 b hb).1, by rw [hsz]; exact (h.c6 b hb).2⟩, h.nr, h.tmap, fun i hi => (h.tis i hi).kept hks (fun q hq e => ?_), fun i hi q hq => ⟨(h.c8 i hi q hq).1, by rw [hsz]; exact (h.c8 i hi q hq).2⟩⟩, hks.mono (fun q hq e => by rw [e]; exact h.c1)⟩
  subst e
  have := (h.c8 i hi q hq).1
  rw [h.c1] at this
  omega

/-- The stack is cut to so many. -/
theorem RepP.cutR {ex : List Nat} {gR n rc : Nat} (h : RepP w κ sb callsV (rb ++ ex) (.slice (some ⟨gR, 0, none⟩) n rc) tV eV told s) : RepP (w.setCell ⟨sb, 2, none⟩ (.slice (some ⟨gR, 0, none⟩) rb.length rc)) κ sb callsV rb (.slice (some ⟨gR, 0, none⟩) rb.length rc) tV eV told s ∧ Kept (fun q => κ q = 1) w (w.setCell ⟨sb, 2, none⟩ (.slice (some ⟨gR, 0, none⟩) rb.length rc)) := by
  have hks := kept_set w sb 2 (.slice (some ⟨gR, 0, none⟩) rb.length rc)
  have hne := fun {c : Nat} {v : Value} => h.base (c := c) (v := v)
  have hsz : (w.setCell ⟨sb, 2, none⟩ (.slice (some ⟨gR, 0, none⟩) rb.length rc)).heap.size = w.heap.size := by simp
  have hrow : w.ownsRow 0 88 1 (.slice (some ⟨gR, 0, none⟩) rb.length rc) rb.length (rb.map ptrV) := by
    refine ⟨by simp, ?_⟩
    rcases h.rrow.2 with ⟨e, _⟩ | ⟨g, cap, cur, e, hb, hg, hnc, hcm, hcs, ht⟩
    · cases e
    · cases e
      refine .inr ⟨gR, rc, cur, rfl, hb, hg, ?_, hcm, hcs, ?_⟩
      · rw [List.length_append] at hnc; omega
      · have := congrArg (List.take (rb.length * 1)) ht
        rw [List.take_take, List.length_append, Nat.min_eq_left (by omega), List.map_append, List.take_append_of_le_length (by simp)] at this
        rw [this]
        exact List.take_of_length_le (by simp)
  refine ⟨⟨by rw [set_block _ _ _ _ _ _ h.blk]; rfl, hks.ownsRow hrow (hne h.c2 (by decide)), hks.ownsRow h.trow (hne h.c4 (by decide)), hks.ownsRow h.erow (hne h.c5 (by decide)), h.c1, h.c2, h.c4, h.c5, fun b hb => ⟨(h.c6 b (List.mem_append_left _ hb)).1, by rw [hsz]; exact (h.c6 b (List.mem_append_left _ hb)).2⟩, (List.nodup_append.1 h.nr).1, h.tmap, fun i hi => (h.tis i hi).kept hks (fun q hq e => ?_), fun i hi q hq => ⟨(h.c8 i hi q hq).1, by rw [hsz]; exact (h.c8 i hi q hq).2⟩⟩, hks.mono (fun q hq e => by rw [e]; exact h.c1)⟩
  subst e
  have := (h.c8 i hi q hq).1
  rw [h.c1] at this
  omega
end
end Go.Proofs.Ytffabihenhejfaa

namespace Go.Proofs.Ytffabihenhejfaa
open Go.RowKit
set_option linter.unusedVariables false

/-- Bytes that a Reader of the reference has: handed in, and not too many. -/
def SrcOk (W : World) (v : Value) (xs : List Int) : Prop := IsB W v xs ∧ BytesOk xs ∧ (v = .slice none 0 0 ∨ ∃ a c, v = .slice (some a) xs.length c ∧ xs.length ≤ c)

/-- One live Reader of the reference. -/
def LivR (W w : World) (r : Nat) (rest : List Int) : Prop := ∃ v xs p, RR w r v p 0 ∧ SrcOk W v xs ∧ p ≤ xs.length ∧ rest = xs.drop p

def LiveP (W w : World) (rb : List Nat) (rs : List (List Int)) : Prop :=
  rs.length = rb.length ∧ ∀ i, i < rb.length → LivR W w (rb.getD i 0) (rs.getD i [])

theorem LivR.kept {S : Nat → Prop} {W w w' : World} {r : Nat} {rest : List Int} (h : LivR W w r rest) (hk : Kept S w w') (hS : ¬ S r) : LivR W w' r rest := by
  obtain ⟨v, xs, p, h1, h2⟩ := h
  exact ⟨v, xs, p, h1.kept hk hS, h2⟩
theorem LiveP.new {W w w' : World} {rb : List Nat} {rs : List (List Int)} (h : LiveP W w rb rs) (hk : Kept (fun _ => False) w w') : LiveP W w' rb rs := ⟨h.1, fun i hi => (h.2 i hi).kept hk (fun f => f)⟩

/-- A Plain under way: all but its live Readers. -/
structure ScP (W w : World) (κ : Nat → Nat) (sb : Nat) (callsV : Value) (rb : List Nat) (rV tV eV : Value) (told : List ItV) (s : PS) : Prop where
  rep : RepP w κ sb callsV rb rV tV eV told s
  base : Kept (fun _ => False) W w
  b0 : ∀ q, q < W.heap.size → κ q = 0
  tl : told.length ≤ s.pos
  el : s.rets.length ≤ s.pos
  ml : s.many ≤ s.pos + 1
  p4 : s.pos ≤ 400

/-- Behind some steps since w0: the Plain stands at s, all its Readers are live. -/
def LvP (W : World) (κ0 : Nat → Nat) (w0 : World) (sb : Nat) (callsV : Value) (rb : List Nat) (s : PS) (w : World) : Prop :=
  ∃ κ rV tV eV told, ScP W w κ sb callsV rb rV tV eV told s ∧ LiveP W w rb s.rs ∧ Kept (fun q => 1 ≤ κ0 q ∧ κ0 q ≤ 6) w0 w ∧ ∀ q, q < w0.heap.size → κ q = κ0 q

/-- A call has been taken: the rows have room for one more. -/
def LvNP (W : World) (κ0 : Nat → Nat) (w0 : World) (sb : Nat) (callsV : Value) (rb : List Nat) (s : PS) (w : World) : Prop :=
  ∃ κ rV tV eV told, ScP W w κ sb callsV rb rV tV eV told s ∧ LiveP W w rb s.rs ∧ Kept (fun q => 1 ≤ κ0 q ∧ κ0 q ≤ 6) w0 w ∧ (∀ q, q < w0.heap.size → κ q = κ0 q) ∧ told.length < s.pos ∧ s.rets.length < s.pos ∧ s.many ≤ s.pos

/-- Reader j has met a fault. -/
def TvP (W : World) (κ0 : Nat → Nat) (w0 : World) (sb : Nat) (callsV : Value) (rb : List Nat) (s : PS) (j : Nat) (flt : Int) (w : World) : Prop :=
  ∃ κ rV tV eV told, ScP W w κ sb callsV rb rV tV eV told s ∧ rb.length ≤ s.rs.length ∧ j < rb.length ∧ flt ≠ 0 ∧ (∀ i, i < j → LivR W w (rb.getD i 0) (s.rs.getD i [])) ∧ (∃ v q, RR w (rb.getD j 0) v q flt) ∧ Kept (fun q => 1 ≤ κ0 q ∧ κ0 q ≤ 6) w0 w ∧ ∀ q, q < w0.heap.size → κ q = κ0 q

/-- What a call leaves. -/
def CallPostP (W w : World) (κ : Nat → Nat) (sb : Nat) (callsV : Value) (rb : List Nat) (rV eV : Value) (s : PS) (c : CV) (e : Ending) (w' : World) : Prop :=
  e = .returned (.tuple #[]) ∧
  ((∃ t, callP c s = (t, none) ∧ ∃ κ' tV' told', RepP w' κ' sb callsV rb rV tV' eV told' t ∧ LiveP W w' rb t.rs ∧ Kept (fun q => κ q = 1 ∨ κ q = 4 ∨ q ∈ rb) w w' ∧ ∀ q, q < w.heap.size → κ' q = κ q) ∨
   ∃ (j : Nat) (flt : Int), callP c s = (s, some (j, flt)) ∧ j < rb.length ∧ flt ≠ 0 ∧ (∃ v q, RR w' (rb.getD j 0) v q flt) ∧ Kept (fun q => q = rb.getD j 0) w w')

theorem CallPostP.drew {W w w' : World} {κ : Nat → Nat} {sb : Nat} {callsV : Value} {rb : List Nat} {rV eV : Value} {s : PS} {c : CV} (h : CallPostP W w κ sb callsV rb rV eV s c (.returned (.tuple #[])) w') : CallPostP W w κ sb callsV rb rV eV s c (.returned (.tuple #[])) w'.drew := by
  have hk : Kept (fun _ => False) w' w'.drew := (Kept.refl _ _).drew
  obtain ⟨he, h⟩ := h
  refine ⟨he, ?_⟩
  rcases h with ⟨t, h1, κ', tV', told', h3, h4, h7, h8⟩ | ⟨j, flt, h1, h2, h3, ⟨v, q, h4⟩, h5⟩
  · exact .inl ⟨t, h1, κ', tV', told', h3.new hk, h4.new hk, h7.drew, h8⟩
  · exact .inr ⟨j, flt, h1, h2, h3, ⟨v, q, h4.kept hk (fun f => f)⟩, h5.drew⟩

theorem mem_getD {l : List Nat} {i : Nat} (hi : i < l.length) : l.getD i 0 ∈ l := by rw [List.getD, List.getElem?_eq_getElem hi]; exact List.getElem_mem hi

theorem pcall_told {W w w3 w5 : World} {κ κ1 : Nat → Nat} {sb : Nat} {callsV : Value} {rb : List Nat} {rV tV eV tV' : Value} {told : List ItV} {s : PS} {c : CV} {j : Nat} {y : ItV} {rest' : List Int} (hrep : RepP w3 κ1 sb callsV rb rV tV eV told s) (hag : ∀ q, q < w.heap.size → κ1 q = κ q) (hk6 : ∀ b, b ∈ rb → κ b = 6)
    (hlive : LiveP W w rb s.rs) (hj : whichR c.o rb.length = j) (hjD : j < rb.length) (hk3 : Kept (fun q => q = rb.getD j 0) w w3) (hrd : LivR W w3 (rb.getD j 0) rest') (hck : 1 ≤ c.k ∧ c.k ≤ 9) (hyk : y.k = c.k) (hone : oneD c.k c.n (s.rs.getD j []) = .ok ((y.n, y.xs), rest'))
    (hy : IsB w3 y.bv y.xs) (hy8 : ∀ q, y.bv.ownBlock = some q → κ1 q = 8 ∧ q < w3.heap.size) (hown : w5.ownsRow 0 54 3 tV' (told.length + 1) (told.flatMap ItV.cells ++ y.cells)) (hk : Kept (fun q => tV.ownBlock = some q) w3 w5) (hat : tV'.ownBlock = tV.ownBlock ∨ ∀ q, tV'.ownBlock = some q → w3.heap.size ≤ q) :
    CallPostP W w κ sb callsV rb rV eV s c (.returned (.tuple #[])) (w5.setCell ⟨sb, 3, none⟩ tV') := by
  obtain ⟨l1, l3⟩ := hlive
  obtain ⟨r1, r2, r3⟩ := hrep.tell hy hy8 hown hk hat
  have hs3 := hk3.size
  have hc6 : ∀ i, i < rb.length → κ1 (rb.getD i 0) = 6 := fun i hi => (hrep.c6 _ (mem_getD hi)).1
  refine ⟨rfl, .inl ⟨{ s with rs := s.rs.set j rest', told := s.told ++ [(c.k, y.n, y.xs)] }, ?_, named κ1 tV' 4, tV', told ++ [y], ?_, ⟨?_, fun i hi => ?_⟩, ?_, fun q hq => ?_⟩⟩
  · rw [callP_ok hck (by rw [l1, hj]; exact hone), l1, hj]
  · have := r1.setrs (s.rs.set j rest')
    rw [hyk] at this
    exact this
  · rw [List.length_set]; exact l1
  · by_cases e : i = j
    · subst e
      rw [show (s.rs.set i rest').getD i [] = rest' from by simp [List.getD, show i < s.rs.length by omega]]
      exact hrd.kept r2 (fun h => by rw [hc6 i hi] at h; omega)
    · rw [show (s.rs.set j rest').getD i [] = s.rs.getD i [] from by simp [List.getD, show ¬ j = i from fun h => e h.symm]]
      exact ((l3 i hi).kept hk3 (getD_ne hrep.nr hi hjD e)).kept r2 (fun h => by rw [hc6 i hi] at h; omega)
  · refine (hk3.mono (fun q hq e => ?_)).step r2 (fun q hq e => ?_)
    · exact .inr (.inr (by rw [e]; exact mem_getD hjD))
    · rw [hag q hq] at e
      rcases e with e | e
      · exact .inl e
      · exact .inr (.inl e)
  · rw [r3 q (by omega)]; exact hag q hq

section
variable {W w0 w w1 : World} {κ0 : Nat → Nat} {sb : Nat} {callsV : Value} {rb : List Nat} {s : PS}

theorem ScP.new {κ : Nat → Nat} {rV tV eV : Value} {told : List ItV} (h : ScP W w κ sb callsV rb rV tV eV told s) (hk : Kept (fun _ => False) w w1) : ScP W w1 κ sb callsV rb rV tV eV told s :=
  ⟨h.rep.new hk, h.base.trans hk, h.b0, h.tl, h.el, h.ml, h.p4⟩

theorem LvP.cells (h : LvP W κ0 w0 sb callsV rb s w) : w.cell? ⟨sb, 0, none⟩ = some callsV ∧ w.cell? ⟨sb, 1, none⟩ = some (.int .i64 (s.pos : Int)) ∧ w.frozen? ⟨sb, 1, none⟩ = false ∧ sb < w.heap.size ∧ s.pos ≤ 400 ∧ s.rs.length = rb.length ∧ Kept (fun _ => False) W w := by
  obtain ⟨κ, rV, tV, eV, told, h1, h2, h3, h4⟩ := h
  obtain ⟨c0, c1, _⟩ := h1.rep.cells
  exact ⟨c0, c1, h1.rep.frozen 1, h1.rep.lt, h1.p4, h2.1, h1.base⟩

theorem LvP.new (h : LvP W κ0 w0 sb callsV rb s w) (hk : Kept (fun _ => False) w w1) : LvP W κ0 w0 sb callsV rb s w1 := by
  obtain ⟨κ, rV, tV, eV, told, h1, h2, h3, h4⟩ := h
  exact ⟨κ, rV, tV, eV, told, h1.new hk, h2.new hk, h3.step hk (fun _ _ f => f.elim), h4⟩

theorem TvP.new {j : Nat} {flt : Int} (h : TvP W κ0 w0 sb callsV rb s j flt w) (hk : Kept (fun _ => False) w w1) : TvP W κ0 w0 sb callsV rb s j flt w1 := by
  obtain ⟨κ, rV, tV, eV, told, h1, h2, h3, h4, h5, ⟨v, q, h6⟩, h7, h8⟩ := h
  exact ⟨κ, rV, tV, eV, told, h1.new hk, h2, h3, h4, fun i hi => (h5 i hi).kept hk (fun f => f), ⟨v, q, h6.kept hk (fun f => f)⟩, h7.step hk (fun _ _ f => f.elim), h8⟩

theorem LvNP.lv (h : LvNP W κ0 w0 sb callsV rb s w) : LvP W κ0 w0 sb callsV rb s w := by
  obtain ⟨κ, rV, tV, eV, told, h1, h2, h3, h4, _⟩ := h
  exact ⟨κ, rV, tV, eV, told, h1, h2, h3, h4⟩

/-- A call is taken. -/
theorem LvP.next (h : LvP W κ0 w0 sb callsV rb s w) (hp : s.pos < 400) : LvNP W κ0 w0 sb callsV rb { s with pos := s.pos + 1 } (w.setCell ⟨sb, 1, none⟩ (.int .i64 ((s.pos + 1 : Nat) : Int))) := by
  obtain ⟨κ, rV, tV, eV, told, h1, ⟨l1, l3⟩, h3, h4⟩ := h
  obtain ⟨r1, r2⟩ := h1.rep.next
  have e1 := h1.tl
  have e2 := h1.el
  have e3 := h1.ml
  exact ⟨κ, rV, tV, eV, told, ⟨r1, h1.base.step r2 (fun q hq e => by have := h1.b0 q hq; omega), h1.b0, by dsimp only; omega, by dsimp only; omega, by dsimp only; omega, by dsimp only; omega⟩, ⟨l1, fun i hi => (l3 i hi).kept r2 (fun e => by have := (h1.rep.c6 _ (mem_getD hi)).1; omega)⟩, h3.step r2 (fun q hq e => by rw [h4 q hq] at e; omega), h4, by dsimp only; omega, by dsimp only; omega, by dsimp only; omega⟩

theorem TvP.up {κ : Nat → Nat} {w2 : World} {j : Nat} {flt : Int} (h : TvP W κ w sb callsV rb s j flt w2) (hk : Kept (fun q => 1 ≤ κ0 q ∧ κ0 q ≤ 6) w0 w) (ha : ∀ q, q < w0.heap.size → κ q = κ0 q) : TvP W κ0 w0 sb callsV rb s j flt w2 := by
  obtain ⟨κ', rV, tV, eV, told, h1, h2, h2', h5, h6, h7, h3, h4⟩ := h
  exact ⟨κ', rV, tV, eV, told, h1, h2, h2', h5, h6, h7, hk.step h3 (fun q hq e => by rw [ha q hq] at e; exact e), fun q hq => by rw [h4 q (Nat.lt_of_lt_of_le hq hk.size)]; exact ha q hq⟩
theorem LvP.up {κ : Nat → Nat} {w2 : World} (h : LvP W κ w sb callsV rb s w2) (hk : Kept (fun q => 1 ≤ κ0 q ∧ κ0 q ≤ 6) w0 w) (ha : ∀ q, q < w0.heap.size → κ q = κ0 q) : LvP W κ0 w0 sb callsV rb s w2 := by
  obtain ⟨κ', rV, tV, eV, told, h1, h2, h3, h4⟩ := h
  exact ⟨κ', rV, tV, eV, told, h1, h2, hk.step h3 (fun q hq e => by rw [ha q hq] at e; exact e), fun q hq => by rw [h4 q (Nat.lt_of_lt_of_le hq hk.size)]; exact ha q hq⟩

/-- What a call leaves, told of the whole. -/
theorem callP_lv {κ : Nat → Nat} {rV tV eV : Value} {told : List ItV} {c : CV} {e : Ending} {w' : World} (h1 : ScP W w κ sb callsV rb rV tV eV told s) (hl : LiveP W w rb s.rs) (h3 : Kept (fun q => 1 ≤ κ0 q ∧ κ0 q ≤ 6) w0 w) (h4 : ∀ q, q < w0.heap.size → κ q = κ0 q) (ht : told.length < s.pos) (he : s.rets.length < s.pos) (hkb : s.many ≤ s.pos) (h : CallPostP W w κ sb callsV rb rV eV s c e w') :
    e = .returned (.tuple #[]) ∧ ((∃ t, callP c s = (t, none) ∧ LvP W κ0 w0 sb callsV rb t w') ∨ ∃ j flt, callP c s = (s, some (j, flt)) ∧ TvP W κ0 w0 sb callsV rb s j flt w') := by
  obtain ⟨rfl, h⟩ := h
  have hk6 : ∀ b, b ∈ rb → κ b = 6 := fun b hb => (h1.rep.c6 b hb).1
  refine ⟨rfl, ?_⟩
  rcases h with ⟨t, hc, κ', tV', told', r1, r2, r3, r4⟩ | ⟨j, flt, hc, hj, hf0, hr, r2⟩
  · have ep := (callP_pos c s).1
    have er := callP_rets c s
    have e3 := callP_told c s
    have em : t.many = s.many := by
      have : (callP c s).1.many = s.many := by
        unfold callP
        by_cases h : 1 ≤ c.k ∧ c.k ≤ 9
        · rw [if_pos h]
          cases oneD c.k c.n (s.rs.getD (s.rs.length - 1 - (c.o % (s.rs.length : Int)).toNat) []) with
          | error flt => rfl
          | ok p => rfl
        · rw [if_neg h]
      rw [hc] at this
      exact this
    rw [hc] at ep er e3
    dsimp only at ep er e3
    have e1 : told'.length = t.told.length := by rw [← r1.tmap, List.length_map]
    have e2 : told.length = s.told.length := by rw [← h1.rep.tmap, List.length_map]
    have hp4 := h1.p4
    refine .inl ⟨t, hc, κ', rV, tV', eV, told', ⟨r1, h1.base.step r3 (fun q hq e => ?_), fun q hq => by rw [r4 q (Nat.lt_of_lt_of_le hq h1.base.size)]; exact h1.b0 q hq, by omega, by rw [er]; omega, by omega, by omega⟩, r2, h3.step r3 (fun q hq e => ?_), fun q hq => by rw [r4 q (Nat.lt_of_lt_of_le hq h3.size)]; exact h4 q hq⟩
    · have := h1.b0 q hq
      rcases e with e | e | e
      · omega
      · omega
      · have := hk6 q e; omega
    · rw [← h4 q hq]
      rcases e with e | e | e
      · omega
      · omega
      · have := hk6 q e; omega
  · have hj6 := hk6 _ (mem_getD hj)
    refine .inr ⟨j, flt, hc, κ, rV, tV, eV, told, ⟨h1.rep.kept r2 (fun q hq e => .inl (by rw [e]; exact hj6)) (fun _ _ => rfl), h1.base.step r2 (fun q hq e => by have := h1.b0 q hq; rw [e] at this; omega), h1.b0, h1.tl, h1.el, h1.ml, h1.p4⟩, by rw [hl.1]; omega, hj, hf0, fun i hi => (hl.2 i (by omega)).kept r2 (getD_ne h1.rep.nr (by omega) hj (by omega)), hr, h3.step r2 (fun q hq e => by rw [← h4 q hq, e]; omega), h4⟩
end

theorem oneD_fault {k n : Int} {xs : List Int} (hb : ∀ x ∈ xs, 0 ≤ x ∧ x ≤ 255) {f : Int} (h : oneD k n xs = .error f) : f ≠ 0 := by
  have hform : ∀ {f : Int}, formD xs = .error f → f ≠ 0 := fun {f} hf => by
    rcases formD_cases xs hb with ⟨u', rest', h', he, _⟩ | h' | h'
    · rw [h'] at hf; cases hf
    · rw [h'.1] at hf; cases hf; decide
    · rw [h'.1] at hf; cases hf; decide
  have hnum : ∀ {f : Int}, numD xs = .error f → f ≠ 0 := fun {f} hf => by
    unfold numD at hf
    cases hd : formD xs with
    | error e => rw [hd] at hf; cases hf; exact hform hd
    | ok p =>
      obtain ⟨u, r⟩ := p
      rw [hd] at hf
      dsimp only at hf
      split at hf
      · cases hf
      · cases hf; decide
  have hraw : ∀ {m : Int} {zs : List Int} {f : Int}, rawD m zs = .error f → f ≠ 0 := fun {m zs f} hf => by
    unfold rawD at hf
    split at hf
    · cases hf; decide
    · split at hf
      · cases hf; decide
      · cases hf
  have hbytes : ∀ {f : Int}, bytesD xs = .error f → f ≠ 0 := fun {f} hf => by
    unfold bytesD at hf
    cases hd : numD xs with
    | error e => rw [hd] at hf; cases hf; exact hnum hd
    | ok p => obtain ⟨u, r⟩ := p; rw [hd] at hf; exact hraw hf
  have l1 : ∀ {d : Except Int (Int × List Int)}, lift1 d = .error f → d = .error f := fun {d} hf => by
    cases d with
    | error e => cases hf; rfl
    | ok p => cases hf
  have l2 : ∀ {d : Except Int (List Int × List Int)}, lift2 d = .error f → d = .error f := fun {d} hf => by
    cases d with
    | error e => cases hf; rfl
    | ok p => cases hf
  unfold oneD at h
  split at h
  · exact hnum (l1 h)
  split at h
  · have hu := l1 h
    unfold intD at hu
    cases hd : formD xs with
    | error e => rw [hd] at hu; cases hu; exact hform hd
    | ok p => rw [hd] at hu; cases hu
  split at h
  · have hu := l1 h
    cases xs with
    | nil => cases hu; decide
    | cons x t =>
      rw [show boolD (x :: t) = if 1 < x then .error 12 else .ok (x, t) from rfl] at hu
      split at hu
      · cases hu; decide
      · cases hu
  split at h
  · exact hbytes (l2 h)
  split at h
  · exact hbytes (l2 h)
  split at h
  · exact hraw (l2 h)
  split at h
  · have hu := l1 h
    unfold mostD at hu
    cases hd : numD xs with
    | error e => rw [hd] at hu; cases hu; exact hnum hd
    | ok p =>
      obtain ⟨u', r⟩ := p
      rw [hd] at hu
      dsimp only at hu
      split at hu
      · cases hu; decide
      · cases hu
  split at h
  · cases h
  split at h
  · cases h
  · rename_i hn
    cases h
    exact hn
end Go.Proofs.Ytffabihenhejfaa

namespace Go.Proofs.Ytffabihenhejfaa
open Go.RowKit
set_option linter.unusedVariables false

section
variable {W w0 w w1 : World} {κ0 : Nat → Nat} {sb : Nat} {callsV : Value} {rb : List Nat} {s : PS}

/-- A Reader is put behind the others, and counted. -/
theorem ScP.push {κ : Nat → Nat} {rV tV eV : Value} {told : List ItV} {w5 : World} {rV' : Value} {r : Nat} {v : Value} {xs : List Int} (h : ScP W w κ sb callsV rb rV tV eV told s) (hl : LiveP W w rb s.rs) (hr : κ r = 6 ∧ r < w.heap.size) (hrn : r ∉ rb) (hrr : RR w r v 0 0) (hsrc : SrcOk W v xs) (hml : s.many ≤ s.pos) (hown : w5.ownsRow 0 88 1 rV' (rb.length + 1) (rb.map ptrV ++ [ptrV r])) (hk : Kept (fun q => rV.ownBlock = some q) w w5) (hat : rV'.ownBlock = rV.ownBlock ∨ ∀ q, rV'.ownBlock = some q → w.heap.size ≤ q) :
    RepP (w5.setCell ⟨sb, 2, none⟩ rV') (named κ rV' 2) sb callsV (rb ++ [r]) rV' tV eV told s ∧
    LvP W κ w sb callsV (rb ++ [r]) { s with rs := s.rs ++ [xs], many := s.many + 1 } ((w5.setCell ⟨sb, 2, none⟩ rV').setCell ⟨sb, 5, none⟩ (.int .i64 ((s.many + 1 : Nat) : Int))) := by
  obtain ⟨r1, r2, r3⟩ := h.rep.pushR hr hrn hown hk hat
  obtain ⟨c1, c2⟩ := r1.count
  have hs2 := r2.size
  have hkk : Kept (fun q => κ q = 1 ∨ κ q = 2) w ((w5.setCell ⟨sb, 2, none⟩ rV').setCell ⟨sb, 5, none⟩ (.int .i64 ((s.many + 1 : Nat) : Int))) := r2.step c2 (fun q hq e => by rw [r3 q hq] at e; exact .inl e)
  obtain ⟨l1, l3⟩ := hl
  refine ⟨r1, named κ rV' 2, rV', tV, eV, told, ⟨c1.setrs (s.rs ++ [xs]), h.base.step hkk (fun q hq e => by have := h.b0 q hq; omega), fun q hq => by rw [r3 q (Nat.lt_of_lt_of_le hq h.base.size)]; exact h.b0 q hq, h.tl, h.el, by dsimp only; omega, h.p4⟩, ⟨by dsimp only; simp [l1], fun i hi => ?_⟩, hkk.mono (fun q hq e => by omega), r3⟩
  rw [List.length_append, List.length_singleton] at hi
  dsimp only
  by_cases e : i < rb.length
  · rw [getD_front rb r i e, show (s.rs ++ [xs]).getD i [] = s.rs.getD i [] from by rw [List.getD, List.getElem?_append_left (by omega)]; rfl]
    exact (l3 i e).kept hkk (fun e' => by have := (h.rep.c6 _ (mem_getD e)).1; omega)
  · have hi' : i = rb.length := by omega
    subst hi'
    rw [getD_last, show (s.rs ++ [xs]).getD rb.length [] = xs from by rw [← l1]; simp [List.getD]]
    exact ⟨v, xs, 0, hrr.kept hkk (fun e' => by have := hr.1; omega), hsrc, Nat.zero_le _, by simp⟩

/-- What the reference's read leaves. -/
def ReadPost (W : World) (calls : List CV) (κ : Nat → Nat) (w : World) (sb : Nat) (callsV : Value) (rb : List Nat) (fuel : Nat) (N : Int) (s : PS) (e : Ending) (w' : World) : Prop :=
  ∃ r, (∃ t, play calls fuel N s = (t, none) ∧ e = .returned (.tuple #[.int .i64 (tailOf (t.rs.getD rb.length []).length 0), .bool true]) ∧ LvP W κ w sb callsV (rb ++ [r]) t w') ∨
    (∃ t flt, play calls fuel N s = (t, some (rb.length, flt)) ∧ e = .returned (.tuple #[.int .i64 flt, .bool true]) ∧ TvP W κ w sb callsV (rb ++ [r]) t rb.length flt w') ∨
    ∃ t j flt, play calls fuel N s = (t, some (j, flt)) ∧ j < rb.length ∧ e = .returned (.tuple #[.int .i64 0, .bool false]) ∧ TvP W κ w sb callsV (rb ++ [r]) t j flt w'

/-- The contract of the reference's read. -/
def ReadC (W : World) (calls : List CV) (sb : Nat) (callsV : Value) (fuel : Nat) : Prop :=
  ∀ (w : World) (κ : Nat → Nat) (N : Int) (v : Value) (xs : List Int) (rb : List Nat) (rV tV eV : Value) (told : List ItV) (s : PS),
    ScP W w κ sb callsV rb rV tV eV told s → LiveP W w rb s.rs → SrcOk W v xs → -9223372036854775808 ≤ N → N ≤ 9223372036854775807 → rb.length < 20 → 400 < s.pos + fuel → s.many ≤ s.pos →
    Calls Try.prog 17 #[.pointer (some ⟨sb, 0, none⟩), v, .int .i64 N] w (ReadPost W calls κ w sb callsV rb fuel N { s with rs := s.rs ++ [xs], many := s.many + 1 })

/-- Behind an inner Read and what is done with its answer: all Readers live, or one has met a fault. -/
def MidP (W : World) (κ0 : Nat → Nat) (w0 : World) (sb : Nat) (callsV : Value) (rb : List Nat) (s : PS) (o : Option (Nat × Int)) (w : World) : Prop :=
  match o with
  | none => LvP W κ0 w0 sb callsV rb s w
  | some (j, flt) => TvP W κ0 w0 sb callsV rb s j flt w

/-- The stack is cut behind an inner Read. -/
theorem LvP.cut {t : PS} {r : Nat} (h : LvP W κ0 w0 sb callsV (rb ++ [r]) t w) : ∃ gR n rc, w.cell? ⟨sb, 2, none⟩ = some (.slice (some ⟨gR, 0, none⟩) n rc) ∧ rb.length ≤ rc ∧ w.frozen? ⟨sb, 2, none⟩ = false ∧ sb < w.heap.size ∧ LvP W κ0 w0 sb callsV rb { t with rs := t.rs.take rb.length } (w.setCell ⟨sb, 2, none⟩ (.slice (some ⟨gR, 0, none⟩) rb.length rc)) := by
  obtain ⟨κ, rV, tV, eV, told, h1, ⟨l1, l3⟩, h3, h4⟩ := h
  obtain ⟨gR, rc, hrV⟩ : ∃ gR rc, rV = .slice (some ⟨gR, 0, none⟩) (rb ++ [r]).length rc := by
    rcases World.ownsRow.mk' h1.rep.rrow with ⟨_, h0⟩ | ⟨g, cap, e⟩
    · simp at h0
    · exact ⟨g, cap, e⟩
  subst hrV
  have hc := h1.rep.cells.2.2.1
  obtain ⟨r1, r2⟩ := h1.rep.cutR
  have hrc : rb.length ≤ rc := by
    rcases h1.rep.rrow.2 with ⟨e, _⟩ | ⟨g, cap, cur, e, hb, hg, hnc, hcm, hcs, ht⟩
    · cases e
    · cases e
      rw [List.length_append] at hnc
      omega
  rw [List.length_append, List.length_singleton] at l1
  refine ⟨gR, _, rc, hc, hrc, h1.rep.frozen 2, h1.rep.lt, κ, _, tV, eV, told, ⟨r1.setrs _, h1.base.step r2 (fun q hq e => by have := h1.b0 q hq; omega), h1.b0, h1.tl, h1.el, h1.ml, h1.p4⟩, ⟨by dsimp only; rw [List.length_take]; omega, fun i hi => ?_⟩, h3.step r2 (fun q hq e => by rw [h4 q hq] at e; omega), h4⟩
  have hh := l3 i (by rw [List.length_append]; omega)
  rw [getD_front rb r i hi] at hh
  rw [show (t.rs.take rb.length).getD i [] = t.rs.getD i [] from by rw [List.getD, List.getElem?_take, if_pos hi]; rfl]
  exact hh.kept r2 (fun e => by have := (h1.rep.c6 _ (List.mem_append_left _ (mem_getD hi))).1; omega)

/-- The same, behind a fault of the inner Reader. -/
theorem TvP.cutIn {t : PS} {r : Nat} {flt : Int} (h : TvP W κ0 w0 sb callsV (rb ++ [r]) t rb.length flt w) : ∃ gR n rc, w.cell? ⟨sb, 2, none⟩ = some (.slice (some ⟨gR, 0, none⟩) n rc) ∧ rb.length ≤ rc ∧ w.frozen? ⟨sb, 2, none⟩ = false ∧ sb < w.heap.size ∧ LvP W κ0 w0 sb callsV rb { t with rs := t.rs.take rb.length } (w.setCell ⟨sb, 2, none⟩ (.slice (some ⟨gR, 0, none⟩) rb.length rc)) := by
  obtain ⟨κ, rV, tV, eV, told, h1, hle, hj, hf, hlive, _, h3, h4⟩ := h
  obtain ⟨gR, rc, hrV⟩ : ∃ gR rc, rV = .slice (some ⟨gR, 0, none⟩) (rb ++ [r]).length rc := by
    rcases World.ownsRow.mk' h1.rep.rrow with ⟨_, h0⟩ | ⟨g, cap, e⟩
    · simp at h0
    · exact ⟨g, cap, e⟩
  subst hrV
  have hc := h1.rep.cells.2.2.1
  obtain ⟨r1, r2⟩ := h1.rep.cutR
  have hrc : rb.length ≤ rc := by
    rcases h1.rep.rrow.2 with ⟨e, _⟩ | ⟨g, cap, cur, e, hb, hg, hnc, hcm, hcs, ht⟩
    · cases e
    · cases e
      rw [List.length_append] at hnc
      omega
  rw [List.length_append, List.length_singleton] at hle
  refine ⟨gR, _, rc, hc, hrc, h1.rep.frozen 2, h1.rep.lt, κ, _, tV, eV, told, ⟨r1.setrs _, h1.base.step r2 (fun q hq e => by have := h1.b0 q hq; omega), h1.b0, h1.tl, h1.el, h1.ml, h1.p4⟩, ⟨by dsimp only; rw [List.length_take]; omega, fun i hi => ?_⟩, h3.step r2 (fun q hq e => by rw [h4 q hq] at e; omega), h4⟩
  have hh := hlive i hi
  rw [getD_front rb r i hi] at hh
  rw [show (t.rs.take rb.length).getD i [] = t.rs.getD i [] from by rw [List.getD, List.getElem?_take, if_pos hi]; rfl]
  exact hh.kept r2 (fun e => by have := (h1.rep.c6 _ (List.mem_append_left _ (mem_getD hi))).1; omega)

/-- The same, behind a fault of a Reader further out. -/
theorem TvP.cutOut {t : PS} {r j : Nat} {flt : Int} (h : TvP W κ0 w0 sb callsV (rb ++ [r]) t j flt w) (hj : j < rb.length) : ∃ gR n rc, w.cell? ⟨sb, 2, none⟩ = some (.slice (some ⟨gR, 0, none⟩) n rc) ∧ rb.length ≤ rc ∧ w.frozen? ⟨sb, 2, none⟩ = false ∧ sb < w.heap.size ∧ TvP W κ0 w0 sb callsV rb t j flt (w.setCell ⟨sb, 2, none⟩ (.slice (some ⟨gR, 0, none⟩) rb.length rc)) := by
  obtain ⟨κ, rV, tV, eV, told, h1, hle, _, hf, hlive, ⟨v, q, hrr⟩, h3, h4⟩ := h
  obtain ⟨gR, rc, hrV⟩ : ∃ gR rc, rV = .slice (some ⟨gR, 0, none⟩) (rb ++ [r]).length rc := by
    rcases World.ownsRow.mk' h1.rep.rrow with ⟨_, h0⟩ | ⟨g, cap, e⟩
    · simp at h0
    · exact ⟨g, cap, e⟩
  subst hrV
  have hc := h1.rep.cells.2.2.1
  obtain ⟨r1, r2⟩ := h1.rep.cutR
  have hrc : rb.length ≤ rc := by
    rcases h1.rep.rrow.2 with ⟨e, _⟩ | ⟨g, cap, cur, e, hb, hg, hnc, hcm, hcs, ht⟩
    · cases e
    · cases e
      rw [List.length_append] at hnc
      omega
  rw [List.length_append, List.length_singleton] at hle
  refine ⟨gR, _, rc, hc, hrc, h1.rep.frozen 2, h1.rep.lt, κ, _, tV, eV, told, ⟨r1, h1.base.step r2 (fun q hq e => by have := h1.b0 q hq; omega), h1.b0, h1.tl, h1.el, h1.ml, h1.p4⟩, by omega, hj, hf, fun i hi => ?_, ⟨v, q, ?_⟩, h3.step r2 (fun q hq e => by rw [h4 q hq] at e; omega), h4⟩
  · have hh := hlive i hi
    rw [getD_front rb r i (by omega)] at hh
    exact hh.kept r2 (fun e => by have := (h1.rep.c6 _ (List.mem_append_left _ (mem_getD (show i < rb.length by omega)))).1; omega)
  · rw [getD_front rb r j hj] at hrr
    exact hrr.kept r2 (fun e => by have := (h1.rep.c6 _ (List.mem_append_left _ (mem_getD hj))).1; omega)

/-- An inner Read's answer is put down. -/
theorem LvP.told {t : PS} {x : Int} (h : LvP W κ0 w0 sb callsV rb t w) (hel : t.rets.length < t.pos) : ∃ eV, w.cell? ⟨sb, 4, none⟩ = some eV ∧ w.frozen? ⟨sb, 4, none⟩ = false ∧ sb < w.heap.size ∧ w.ownsRow 0 3 1 eV t.rets.length (t.rets.map (Value.int .i64)) ∧ t.pos ≤ 400 ∧
    (∀ w5, Kept (fun q => eV.ownBlock = some q) w w5 → (∃ u, w5.cell? ⟨sb, 4, none⟩ = some u) ∧ w5.frozen? ⟨sb, 4, none⟩ = false) ∧
    ∀ (eV' : Value) (w5 : World), w5.ownsRow 0 3 1 eV' (t.rets.length + 1) (t.rets.map (Value.int .i64) ++ [.int .i64 x]) → Kept (fun q => eV.ownBlock = some q) w w5 → (eV'.ownBlock = eV.ownBlock ∨ ∀ q, eV'.ownBlock = some q → w.heap.size ≤ q) → LvP W κ0 w0 sb callsV rb { t with rets := t.rets ++ [x] } (w5.setCell ⟨sb, 4, none⟩ eV') := by
  obtain ⟨κ, rV, tV, eV, told, h1, ⟨l1, l3⟩, h3, h4⟩ := h
  refine ⟨eV, h1.rep.cells.2.2.2.2.1, h1.rep.frozen 4, h1.rep.lt, h1.rep.erow, h1.p4, fun w5 hk => ?_, fun eV' w5 hown hk hat => ?_⟩
  · have h5 := (hk.block sb h1.rep.lt (fun e => by have := h1.rep.c5 sb e; rw [h1.rep.c1] at this; omega)).trans h1.rep.blk
    exact ⟨⟨_, by rw [cell_block _ _ _ _ _ _ h5]; rfl⟩, frozen_block _ _ _ _ _ h5⟩
  · obtain ⟨r1, r2, r3⟩ := h1.rep.ret hown hk hat
    refine ⟨named κ eV' 5, rV, tV, eV', told, ⟨r1, h1.base.step r2 (fun q hq e => by have := h1.b0 q hq; omega), fun q hq => by rw [r3 q (Nat.lt_of_lt_of_le hq h1.base.size)]; exact h1.b0 q hq, h1.tl, by dsimp only; rw [List.length_append, List.length_singleton]; omega, h1.ml, h1.p4⟩, ⟨l1, fun i hi => (l3 i hi).kept r2 (fun e => by have := (h1.rep.c6 _ (mem_getD hi)).1; omega)⟩, h3.step r2 (fun q hq e => by rw [h4 q hq] at e; omega), fun q hq => by rw [r3 q (Nat.lt_of_lt_of_le hq h3.size)]; exact h4 q hq⟩

theorem TvP.told {t : PS} {x : Int} {j : Nat} {flt : Int} (h : TvP W κ0 w0 sb callsV rb t j flt w) (hel : t.rets.length < t.pos) : ∃ eV, w.cell? ⟨sb, 4, none⟩ = some eV ∧ w.frozen? ⟨sb, 4, none⟩ = false ∧ sb < w.heap.size ∧ w.ownsRow 0 3 1 eV t.rets.length (t.rets.map (Value.int .i64)) ∧ t.pos ≤ 400 ∧
    (∀ w5, Kept (fun q => eV.ownBlock = some q) w w5 → (∃ u, w5.cell? ⟨sb, 4, none⟩ = some u) ∧ w5.frozen? ⟨sb, 4, none⟩ = false) ∧
    ∀ (eV' : Value) (w5 : World), w5.ownsRow 0 3 1 eV' (t.rets.length + 1) (t.rets.map (Value.int .i64) ++ [.int .i64 x]) → Kept (fun q => eV.ownBlock = some q) w w5 → (eV'.ownBlock = eV.ownBlock ∨ ∀ q, eV'.ownBlock = some q → w.heap.size ≤ q) → TvP W κ0 w0 sb callsV rb { t with rets := t.rets ++ [x] } j flt (w5.setCell ⟨sb, 4, none⟩ eV') := by
  obtain ⟨κ, rV, tV, eV, told, h1, hle, hj, hf, hlive, ⟨v, p, hrr⟩, h3, h4⟩ := h
  refine ⟨eV, h1.rep.cells.2.2.2.2.1, h1.rep.frozen 4, h1.rep.lt, h1.rep.erow, h1.p4, fun w5 hk => ?_, fun eV' w5 hown hk hat => ?_⟩
  · have h5 := (hk.block sb h1.rep.lt (fun e => by have := h1.rep.c5 sb e; rw [h1.rep.c1] at this; omega)).trans h1.rep.blk
    exact ⟨⟨_, by rw [cell_block _ _ _ _ _ _ h5]; rfl⟩, frozen_block _ _ _ _ _ h5⟩
  · obtain ⟨r1, r2, r3⟩ := h1.rep.ret hown hk hat
    refine ⟨named κ eV' 5, rV, tV, eV', told, ⟨r1, h1.base.step r2 (fun q hq e => by have := h1.b0 q hq; omega), fun q hq => by rw [r3 q (Nat.lt_of_lt_of_le hq h1.base.size)]; exact h1.b0 q hq, h1.tl, by dsimp only; rw [List.length_append, List.length_singleton]; omega, h1.ml, h1.p4⟩, hle, hj, hf, fun i hi => (hlive i hi).kept r2 (fun e => by have := (h1.rep.c6 _ (mem_getD (show i < rb.length by omega))).1; omega), ⟨v, p, hrr.kept r2 (fun e => by have := (h1.rep.c6 _ (mem_getD hj)).1; omega)⟩, h3.step r2 (fun q hq e => by rw [h4 q hq] at e; omega), fun q hq => by rw [r3 q (Nat.lt_of_lt_of_le hq h3.size)]; exact h4 q hq⟩
end
end Go.Proofs.Ytffabihenhejfaa

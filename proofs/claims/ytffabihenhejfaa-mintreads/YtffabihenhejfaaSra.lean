/-
  Sra: Rep2, Srun0, Sinner, Sinner2, Rep3, Srun1.
-/
import Derived.Test.YtffabihenhejfaaScall
namespace Go.Proofs.Ytffabihenhejfaa
open Go.RowKit
set_option linter.unusedVariables false

section
variable {w w' : World} {κ κ' : Nat → Nat} {sb : Nat} {callsV : Value} {rb kb gs : List Nat} {rV kV tV eV : Value} {told : List ItV} {s : PS}

/-- One field of the Script's block is laid anew. -/
theorem Rep.base (h : Rep w κ sb callsV rb kb gs rV kV tV eV told s) (o : Nat) (u : Value) : ∀ {c : Nat} {v : Value}, (∀ q, v.ownBlock = some q → κ q = c) → c ≠ 1 → ∀ q, v.ownBlock = some q → q ≠ sb := fun hc h1 q hq e => by subst e; have := h.c1; rw [hc _ hq] at this; exact h1 this

/-- A call is taken. -/
theorem Rep.next (h : Rep w κ sb callsV rb kb gs rV kV tV eV told s) : Rep (w.setCell ⟨sb, 1, none⟩ (.int .i64 ((s.pos + 1 : Nat) : Int))) κ sb callsV rb kb gs rV kV tV eV told { s with pos := s.pos + 1 } ∧ Kept (fun q => κ q = 1) w (w.setCell ⟨sb, 1, none⟩ (.int .i64 ((s.pos + 1 : Nat) : Int))) := by
  have hks := kept_set w sb 1 (.int .i64 ((s.pos + 1 : Nat) : Int))
  have hne := fun {c : Nat} {v : Value} => h.base 1 (.bool false) (c := c) (v := v)
  have hsz : (w.setCell ⟨sb, 1, none⟩ (.int .i64 ((s.pos + 1 : Nat) : Int))).heap.size = w.heap.size := by simp
  refine ⟨⟨by rw [set_block _ _ _ _ _ _ h.blk]; rfl, hks.ownsRow h.rrow (hne h.c2 (by decide)), hks.ownsRow h.krow (hne h.c3 (by decide)), hks.ownsRow h.trow (hne h.c4 (by decide)), hks.ownsRow h.erow (hne h.c5 (by decide)), h.c1, h.c2, h.c3, h.c4, h.c5, fun b hb => ⟨(h.c6 b hb).1, by rw [hsz]; exact (h.c6 b hb).2⟩, fun g hg => ⟨(h.c7 g hg).1, by rw [hsz]; exact (h.c7 g hg).2⟩, h.nk, h.nr, h.sub, h.klen, h.tmap, fun i hi => (h.tis i hi).kept hks (fun q hq e => ?_), fun i hi q hq => ⟨(h.c8 i hi q hq).1, by rw [hsz]; exact (h.c8 i hi q hq).2⟩⟩, hks.mono (fun q hq e => by rw [e]; exact h.c1)⟩
  subst e
  have := (h.c8 i hi q hq).1
  rw [h.c1] at this
  omega

/-- An inner Read has answered. -/
theorem Rep.ret (h : Rep w κ sb callsV rb kb gs rV kV tV eV told s) {w5 : World} {eV' : Value} {x : Int} (hown : w5.ownsRow 0 43 1 eV' (s.rets.length + 1) (s.rets.map (Value.int .i64) ++ [.int .i64 x])) (hk : Kept (fun q => eV.ownBlock = some q) w w5) (hat : eV'.ownBlock = eV.ownBlock ∨ ∀ q, eV'.ownBlock = some q → w.heap.size ≤ q) :
    Rep (w5.setCell ⟨sb, 5, none⟩ eV') (named κ eV' 5) sb callsV rb kb gs rV kV tV eV' told { s with rets := s.rets ++ [x] } ∧ Kept (fun q => κ q = 1 ∨ κ q = 5) w (w5.setCell ⟨sb, 5, none⟩ eV') ∧ (∀ q, q < w.heap.size → named κ eV' 5 q = κ q) := by
  have hna := named_old (w := w) h.c5 hat
  obtain ⟨o1, o2, o3, _, o5, o6⟩ := h.others h.c5 hk (by decide) (by decide)
  have hs := hk.size
  have hlt := h.lt
  have hks := kept_set w5 sb 5 eV'
  have hne := fun {c : Nat} {v : Value} => h.base 1 (.bool false) (c := c) (v := v)
  have hsize : (w5.setCell ⟨sb, 5, none⟩ eV').heap.size = w5.heap.size := by simp
  refine ⟨⟨by rw [set_block _ _ _ _ _ _ o5]; rfl, hks.ownsRow (o1 (by decide)) (hne h.c2 (by decide)), hks.ownsRow (o2 (by decide)) (hne h.c3 (by decide)), hks.ownsRow (o3 (by decide)) (hne h.c4 (by decide)), ?_, by rw [hna sb hlt]; exact h.c1,
    fun q hq => by rw [hna q (h.rrow.lt q hq).2]; exact h.c2 q hq, fun q hq => by rw [hna q (h.krow.lt q hq).2]; exact h.c3 q hq, fun q hq => by rw [hna q (h.trow.lt q hq).2]; exact h.c4 q hq, named_new,
    fun b hb => ⟨by rw [hna b (h.c6 b hb).2]; exact (h.c6 b hb).1, by rw [hsize]; exact Nat.lt_of_lt_of_le (h.c6 b hb).2 hs⟩, fun g hg => ⟨by rw [hna g (h.c7 g hg).2]; exact (h.c7 g hg).1, by rw [hsize]; exact Nat.lt_of_lt_of_le (h.c7 g hg).2 hs⟩, h.nk, h.nr, h.sub, h.klen, h.tmap, fun i hi => ?_, fun i hi q hq => ?_⟩, ?_, hna⟩
  · refine hks.ownsRow ?_ (fun q hq e => ?_)
    · rw [List.length_append, List.map_append]
      simpa using hown
    · subst e
      rcases hat with e' | e'
      · rw [e'] at hq; have := h.c5 q hq; rw [h.c1] at this; omega
      · have := e' q hq; omega
  · exact (o6 i hi).kept hks (fun q hq e => by subst e; have := (h.c8 i hi q hq).1; rw [h.c1] at this; omega)
  · rw [hsize]
    exact ⟨by rw [hna q (h.c8 i hi q hq).2]; exact (h.c8 i hi q hq).1, Nat.lt_of_lt_of_le (h.c8 i hi q hq).2 hs⟩
  · exact (hk.mono (fun q hq e => .inr (h.c5 q e))).step hks (fun q hq e => by subst e; exact .inl h.c1)

/-- A Reader is put behind the Readers of the stack. -/
theorem Rep.pushR (h : Rep w κ sb callsV rb kb gs rV kV tV eV told s) {w5 : World} {rV' : Value} {r : Nat} (hr : r ∈ kb) (hrn : r ∉ rb) (hown : w5.ownsRow 0 56 1 rV' (rb.length + 1) (rb.map ptrV ++ [ptrV r])) (hk : Kept (fun q => rV.ownBlock = some q) w w5) (hat : rV'.ownBlock = rV.ownBlock ∨ ∀ q, rV'.ownBlock = some q → w.heap.size ≤ q) :
    Rep (w5.setCell ⟨sb, 2, none⟩ rV') (named κ rV' 2) sb callsV (rb ++ [r]) kb gs rV' kV tV eV told s ∧ Kept (fun q => κ q = 1 ∨ κ q = 2) w (w5.setCell ⟨sb, 2, none⟩ rV') ∧ (∀ q, q < w.heap.size → named κ rV' 2 q = κ q) := by
  have hna := named_old (w := w) h.c2 hat
  obtain ⟨_, o2, o3, o4, o5, o6⟩ := h.others h.c2 hk (by decide) (by decide)
  have hs := hk.size
  have hlt := h.lt
  have hks := kept_set w5 sb 2 rV'
  have hne := fun {c : Nat} {v : Value} => h.base 1 (.bool false) (c := c) (v := v)
  have hsize : (w5.setCell ⟨sb, 2, none⟩ rV').heap.size = w5.heap.size := by simp
  refine ⟨⟨by rw [set_block _ _ _ _ _ _ o5]; rfl, ?_, hks.ownsRow (o2 (by decide)) (hne h.c3 (by decide)), hks.ownsRow (o3 (by decide)) (hne h.c4 (by decide)), hks.ownsRow (o4 (by decide)) (hne h.c5 (by decide)), by rw [hna sb hlt]; exact h.c1,
    named_new, fun q hq => by rw [hna q (h.krow.lt q hq).2]; exact h.c3 q hq, fun q hq => by rw [hna q (h.trow.lt q hq).2]; exact h.c4 q hq, fun q hq => by rw [hna q (h.erow.lt q hq).2]; exact h.c5 q hq,
    fun b hb => ⟨by rw [hna b (h.c6 b hb).2]; exact (h.c6 b hb).1, by rw [hsize]; exact Nat.lt_of_lt_of_le (h.c6 b hb).2 hs⟩, fun g hg => ⟨by rw [hna g (h.c7 g hg).2]; exact (h.c7 g hg).1, by rw [hsize]; exact Nat.lt_of_lt_of_le (h.c7 g hg).2 hs⟩, h.nk, ?_, fun b hb => ?_, h.klen, h.tmap, fun i hi => ?_, fun i hi q hq => ?_⟩, ?_, hna⟩
  · refine hks.ownsRow ?_ (fun q hq e => ?_)
    · rw [List.length_append, List.map_append]
      simpa using hown
    · subst e
      rcases hat with e' | e'
      · rw [e'] at hq; have := h.c2 q hq; rw [h.c1] at this; omega
      · have := e' q hq; omega
  · rw [List.nodup_append]
    exact ⟨h.nr, by simp, fun a ha b hb e => by rw [List.mem_singleton] at hb; subst hb; subst e; exact hrn ha⟩
  · rcases List.mem_append.1 hb with h' | h'
    · exact h.sub b h'
    · rw [List.mem_singleton.1 h']; exact hr
  · exact (o6 i hi).kept hks (fun q hq e => by subst e; have := (h.c8 i hi q hq).1; rw [h.c1] at this; omega)
  · rw [hsize]
    exact ⟨by rw [hna q (h.c8 i hi q hq).2]; exact (h.c8 i hi q hq).1, Nat.lt_of_lt_of_le (h.c8 i hi q hq).2 hs⟩
  · exact (hk.mono (fun q hq e => .inr (h.c2 q e))).step hks (fun q hq e => by subst e; exact .inl h.c1)

/-- A Reader is put behind those that are kept. -/
theorem Rep.pushK (h : Rep w κ sb callsV rb kb gs rV kV tV eV told s) {w5 : World} {kV' : Value} {r : Nat} (hr : κ r = 6 ∧ r < w.heap.size) (hrn : r ∉ kb) (hown : w5.ownsRow 0 56 1 kV' (kb.length + 1) (kb.map ptrV ++ [ptrV r])) (hk : Kept (fun q => kV.ownBlock = some q) w w5) (hat : kV'.ownBlock = kV.ownBlock ∨ ∀ q, kV'.ownBlock = some q → w.heap.size ≤ q) :
    Rep (w5.setCell ⟨sb, 3, none⟩ kV') (named κ kV' 3) sb callsV rb (kb ++ [r]) gs rV kV' tV eV told { s with many := s.many + 1 } ∧ Kept (fun q => κ q = 1 ∨ κ q = 3) w (w5.setCell ⟨sb, 3, none⟩ kV') ∧ (∀ q, q < w.heap.size → named κ kV' 3 q = κ q) := by
  have hna := named_old (w := w) h.c3 hat
  obtain ⟨o1, _, o3, o4, o5, o6⟩ := h.others h.c3 hk (by decide) (by decide)
  have hs := hk.size
  have hlt := h.lt
  have hks := kept_set w5 sb 3 kV'
  have hne := fun {c : Nat} {v : Value} => h.base 1 (.bool false) (c := c) (v := v)
  have hsize : (w5.setCell ⟨sb, 3, none⟩ kV').heap.size = w5.heap.size := by simp
  refine ⟨⟨by rw [set_block _ _ _ _ _ _ o5]; rfl, hks.ownsRow (o1 (by decide)) (hne h.c2 (by decide)), ?_, hks.ownsRow (o3 (by decide)) (hne h.c4 (by decide)), hks.ownsRow (o4 (by decide)) (hne h.c5 (by decide)), by rw [hna sb hlt]; exact h.c1,
    fun q hq => by rw [hna q (h.rrow.lt q hq).2]; exact h.c2 q hq, named_new, fun q hq => by rw [hna q (h.trow.lt q hq).2]; exact h.c4 q hq, fun q hq => by rw [hna q (h.erow.lt q hq).2]; exact h.c5 q hq,
    fun b hb => ?_, fun g hg => ⟨by rw [hna g (h.c7 g hg).2]; exact (h.c7 g hg).1, by rw [hsize]; exact Nat.lt_of_lt_of_le (h.c7 g hg).2 hs⟩, ?_, h.nr, fun b hb => List.mem_append_left _ (h.sub b hb), by rw [List.length_append, h.klen]; rfl, h.tmap, fun i hi => ?_, fun i hi q hq => ?_⟩, ?_, hna⟩
  · refine hks.ownsRow ?_ (fun q hq e => ?_)
    · rw [List.length_append, List.map_append]
      simpa using hown
    · subst e
      rcases hat with e' | e'
      · rw [e'] at hq; have := h.c3 q hq; rw [h.c1] at this; omega
      · have := e' q hq; omega
  · rw [hsize]
    rcases List.mem_append.1 hb with h' | h'
    · exact ⟨by rw [hna b (h.c6 b h').2]; exact (h.c6 b h').1, Nat.lt_of_lt_of_le (h.c6 b h').2 hs⟩
    · rw [List.mem_singleton.1 h']
      exact ⟨by rw [hna r hr.2]; exact hr.1, Nat.lt_of_lt_of_le hr.2 hs⟩
  · rw [List.nodup_append]
    exact ⟨h.nk, by simp, fun a ha b hb e => by rw [List.mem_singleton] at hb; subst hb; subst e; exact hrn ha⟩
  · exact (o6 i hi).kept hks (fun q hq e => by subst e; have := (h.c8 i hi q hq).1; rw [h.c1] at this; omega)
  · rw [hsize]
    exact ⟨by rw [hna q (h.c8 i hi q hq).2]; exact (h.c8 i hi q hq).1, Nat.lt_of_lt_of_le (h.c8 i hi q hq).2 hs⟩
  · exact (hk.mono (fun q hq e => .inr (h.c3 q e))).step hks (fun q hq e => by subst e; exact .inl h.c1)

/-- The stack is cut to so many. -/
theorem Rep.cutR {ex : List Nat} {gR n rc : Nat} (h : Rep w κ sb callsV (rb ++ ex) kb gs (.slice (some ⟨gR, 0, none⟩) n rc) kV tV eV told s) : Rep (w.setCell ⟨sb, 2, none⟩ (.slice (some ⟨gR, 0, none⟩) rb.length rc)) κ sb callsV rb kb gs (.slice (some ⟨gR, 0, none⟩) rb.length rc) kV tV eV told s ∧ Kept (fun q => κ q = 1) w (w.setCell ⟨sb, 2, none⟩ (.slice (some ⟨gR, 0, none⟩) rb.length rc)) := by
  have hks := kept_set w sb 2 (.slice (some ⟨gR, 0, none⟩) rb.length rc)
  have hne := fun {c : Nat} {v : Value} => h.base 1 (.bool false) (c := c) (v := v)
  have hsz : (w.setCell ⟨sb, 2, none⟩ (.slice (some ⟨gR, 0, none⟩) rb.length rc)).heap.size = w.heap.size := by simp
  have hrow : w.ownsRow 0 56 1 (.slice (some ⟨gR, 0, none⟩) rb.length rc) rb.length (rb.map ptrV) := by
    refine ⟨by simp, ?_⟩
    rcases h.rrow.2 with ⟨e, _⟩ | ⟨g, cap, cur, e, hb, hg, hnc, hcm, hcs, ht⟩
    · cases e
    · cases e
      refine .inr ⟨gR, rc, cur, rfl, hb, hg, ?_, hcm, hcs, ?_⟩
      · rw [List.length_append] at hnc; omega
      · have := congrArg (List.take (rb.length * 1)) ht
        rw [List.take_take, List.length_append, Nat.min_eq_left (by omega), List.map_append, List.take_append_of_le_length (by simp)] at this
        rw [this]
        exact List.take_of_length_le (by simp)
  refine ⟨⟨by rw [set_block _ _ _ _ _ _ h.blk]; rfl, hks.ownsRow hrow (hne h.c2 (by decide)), hks.ownsRow h.krow (hne h.c3 (by decide)), hks.ownsRow h.trow (hne h.c4 (by decide)), hks.ownsRow h.erow (hne h.c5 (by decide)), h.c1, h.c2, h.c3, h.c4, h.c5, fun b hb => ⟨(h.c6 b hb).1, by rw [hsz]; exact (h.c6 b hb).2⟩, fun g hg => ⟨(h.c7 g hg).1, by rw [hsz]; exact (h.c7 g hg).2⟩, h.nk, (List.nodup_append.1 h.nr).1, fun b hb => h.sub b (List.mem_append_left _ hb), h.klen, h.tmap, fun i hi => (h.tis i hi).kept hks (fun q hq e => ?_), fun i hi q hq => ⟨(h.c8 i hi q hq).1, by rw [hsz]; exact (h.c8 i hi q hq).2⟩⟩, hks.mono (fun q hq e => by rw [e]; exact h.c1)⟩
  subst e
  have := (h.c8 i hi q hq).1
  rw [h.c1] at this
  omega

/-- Memory that was lent is named, or no longer of matter. -/
theorem Rep.lent (h : Rep w κ sb callsV rb kb gs rV kV tV eV told s) (gs' : List Nat) (hg : ∀ g, g ∈ gs' → κ g = 7 ∧ g < w.heap.size) : Rep w κ sb callsV rb kb gs' rV kV tV eV told s :=
  ⟨h.blk, h.rrow, h.krow, h.trow, h.erow, h.c1, h.c2, h.c3, h.c4, h.c5, h.c6, hg, h.nk, h.nr, h.sub, h.klen, h.tmap, h.tis, h.c8⟩
end
end Go.Proofs.Ytffabihenhejfaa

namespace Go.Proofs.Ytffabihenhejfaa
open Go.RowKit
set_option linter.unusedVariables false

/-- The calls that were handed in. -/
def CallsOk (W : World) (callsV : Value) (calls : List CV) : Prop :=
  (∃ ao c, callsV = .slice ao calls.length c ∧ ∀ i, i < calls.length → ∃ cb o, ao = some ⟨cb, o, none⟩ ∧ W.cell? ⟨cb, o + i * 4, none⟩ = some (.int .i64 (calls.getD i CV.default).k) ∧ W.cell? ⟨cb, o + i * 4 + 1, none⟩ = some (.int .i64 (calls.getD i CV.default).n) ∧ W.cell? ⟨cb, o + i * 4 + 2, none⟩ = some (.int .i64 (calls.getD i CV.default).o) ∧ W.cell? ⟨cb, o + i * 4 + 3, none⟩ = some (calls.getD i CV.default).bv) ∧
  ∀ i, i < calls.length → (-9223372036854775808 ≤ (calls.getD i CV.default).k ∧ (calls.getD i CV.default).k ≤ 9223372036854775807) ∧ (-9223372036854775808 ≤ (calls.getD i CV.default).n ∧ (calls.getD i CV.default).n ≤ 9223372036854775807) ∧ (-9223372036854775808 ≤ (calls.getD i CV.default).o ∧ (calls.getD i CV.default).o ≤ 9223372036854775807) ∧ IsB W (calls.getD i CV.default).bv (calls.getD i CV.default).xs ∧ BytesOk (calls.getD i CV.default).xs

/-- A Script under way: all but its live Readers. -/
structure Sc (W w : World) (κ : Nat → Nat) (sb : Nat) (callsV : Value) (rb kb gs : List Nat) (rV kV tV eV : Value) (told : List ItV) (s : PS) (lv : List Nat) : Prop where
  rep : Rep w κ sb callsV rb kb gs rV kV tV eV told s
  base : Kept (fun _ => False) W w
  b0 : ∀ q, q < W.heap.size → κ q = 0
  dead : ∀ b, b ∈ kb → b ∉ lv → Dead w b
  tl : told.length ≤ s.pos
  el : s.rets.length ≤ s.pos
  kl : kb.length ≤ s.pos + 1
  p4 : s.pos ≤ 400
  bo : ∀ i, i < s.rs.length → BytesOk (s.rs.getD i [])

/-- Behind some steps since w0: the Script stands at s, all its Readers are live. -/
def Lv (W : World) (κ0 : Nat → Nat) (w0 : World) (sb : Nat) (callsV : Value) (rb gs : List Nat) (s : PS) (w : World) : Prop :=
  ∃ κ kb rV kV tV eV told, Sc W w κ sb callsV rb kb gs rV kV tV eV told s rb ∧ Live w rb gs s.rs ∧ Kept (fun q => 1 ≤ κ0 q ∧ κ0 q ≤ 6) w0 w ∧ ∀ q, q < w0.heap.size → κ q = κ0 q

/-- The fault of Reader j is under way. -/
def Tv (W : World) (κ0 : Nat → Nat) (w0 : World) (sb : Nat) (callsV : Value) (rb gs : List Nat) (s : PS) (j : Nat) (flt : Int) (w : World) : Prop :=
  ∃ κ kb ex rV kV tV eV told, Sc W w κ sb callsV (rb ++ ex) kb gs rV kV tV eV told s rb ∧ rb.length ≤ s.rs.length ∧ gs.length = rb.length ∧ (∀ i, i < j → ∃ v, Rd w (rb.getD i 0) v true 0 ∧ IsR w (gs.getD i 0) v (s.rs.getD i [])) ∧ Rd w (rb.getD j 0) (.slice none 0 0) false flt ∧
    (∀ i, j < i → i < rb.length → ∃ ao n c l f, Rd w (rb.getD i 0) (.slice ao n c) l f) ∧ Kept (fun q => 1 ≤ κ0 q ∧ κ0 q ≤ 6) w0 w ∧ ∀ q, q < w0.heap.size → κ q = κ0 q

/-- What (*f).run leaves. -/
def RunPost (W : World) (calls : List CV) (κ : Nat → Nat) (w : World) (sb : Nat) (callsV : Value) (rb gs : List Nat) (fuel : Nat) (N : Int) (s : PS) (e : Ending) (w' : World) : Prop :=
  (∃ t, play calls fuel N s = (t, none) ∧ e = .returned (.tuple #[]) ∧ Lv W κ w sb callsV rb gs t w') ∨
  ∃ t j flt older, play calls fuel N s = (t, some (j, flt)) ∧ j < rb.length ∧ Plain1 older ∧ e = .panicked ({ v := thrownV (rb.getD j 0), recovered := false } :: older) ∧ Tv W κ w sb callsV rb gs t j flt w'

theorem oneD_bytes {k n : Int} {xs : List Int} (hb : BytesOk xs) {g : Int × List Int} {rest : List Int} (h : oneD k n xs = .ok (g, rest)) : BytesOk rest := by
  have suf : ∀ {rest : List Int}, (∃ a, xs = a ++ rest) → BytesOk rest := fun {rest} ⟨a, ha⟩ => ⟨fun x hx => hb.1 x (by rw [ha]; exact List.mem_append_right _ hx), by have := hb.2; rw [ha, List.length_append] at this; omega⟩
  have hform : ∀ {u : Int} {rest : List Int}, formD xs = .ok (u, rest) → ∃ a, xs = a ++ rest := fun {u rest} hf => by
    rcases formD_cases xs hb.1 with ⟨u', rest', h', he, _⟩ | h' | h'
    · rw [h'] at hf; cases hf; exact ⟨_, he⟩
    · rw [h'.1] at hf; cases hf
    · rw [h'.1] at hf; cases hf
  have hnum : ∀ {u : Int} {rest : List Int}, numD xs = .ok (u, rest) → ∃ a, xs = a ++ rest := fun hf => hform (numD_ok hf).1
  have hraw : ∀ {m : Int} {zs ys rest : List Int}, rawD m zs = .ok (ys, rest) → (∃ a, xs = a ++ zs) → ∃ a, xs = a ++ rest := fun {m zs ys rest} hf hz => by
    unfold rawD at hf
    split at hf
    · cases hf
    · split at hf
      · cases hf
      · cases hf
        obtain ⟨a, ha⟩ := hz
        exact ⟨a ++ zs.take m.toNat, by rw [List.append_assoc, List.take_append_drop]; exact ha⟩
  have hbytes : ∀ {ys rest : List Int}, bytesD xs = .ok (ys, rest) → ∃ a, xs = a ++ rest := fun {ys rest} hf => by
    unfold bytesD at hf
    cases hd : numD xs with
    | error e => rw [hd] at hf; cases hf
    | ok p => obtain ⟨u, r⟩ := p; rw [hd] at hf; exact hraw hf (hnum hd)
  have l1 : ∀ {d : Except Int (Int × List Int)}, lift1 d = .ok (g, rest) → ∃ u, d = .ok (u, rest) := fun {d} hf => by
    cases d with
    | error e => cases hf
    | ok p => obtain ⟨u, r⟩ := p; cases hf; exact ⟨u, rfl⟩
  have l2 : ∀ {d : Except Int (List Int × List Int)}, lift2 d = .ok (g, rest) → ∃ u, d = .ok (u, rest) := fun {d} hf => by
    cases d with
    | error e => cases hf
    | ok p => obtain ⟨u, r⟩ := p; cases hf; exact ⟨u, rfl⟩
  unfold oneD at h
  split at h
  · obtain ⟨u, hu⟩ := l1 h; exact suf (hnum hu)
  split at h
  · obtain ⟨u, hu⟩ := l1 h
    unfold intD at hu
    cases hd : formD xs with
    | error e => rw [hd] at hu; cases hu
    | ok p => obtain ⟨u', r⟩ := p; rw [hd] at hu; cases hu; exact suf (hform hd)
  split at h
  · obtain ⟨u, hu⟩ := l1 h
    cases xs with
    | nil => cases hu
    | cons x t =>
      rw [show boolD (x :: t) = if 1 < x then .error 12 else .ok (x, t) from rfl] at hu
      split at hu
      · cases hu
      · cases hu; exact suf ⟨[_], rfl⟩
  split at h
  · obtain ⟨u, hu⟩ := l2 h; exact suf (hbytes hu)
  split at h
  · obtain ⟨u, hu⟩ := l2 h; exact suf (hbytes hu)
  split at h
  · obtain ⟨u, hu⟩ := l2 h; exact suf (hraw hu ⟨[], rfl⟩)
  split at h
  · obtain ⟨u, hu⟩ := l1 h
    unfold mostD at hu
    cases hd : numD xs with
    | error e => rw [hd] at hu; cases hu
    | ok p =>
      obtain ⟨u', r⟩ := p
      rw [hd] at hu
      dsimp only at hu
      split at hu
      · cases hu
      · cases hu; exact suf (hnum hd)
  split at h
  · cases h; exact hb
  split at h
  · cases h; exact hb
  · cases h

theorem callP_bytes {c : CV} {s t : PS} {o : Option (Nat × Int)} (hb : ∀ i, i < s.rs.length → BytesOk (s.rs.getD i [])) (hj : whichR c.o s.rs.length < s.rs.length) (h : callP c s = (t, o)) : ∀ i, i < t.rs.length → BytesOk (t.rs.getD i []) := by
  unfold callP at h
  split at h
  · cases hd : oneD c.k c.n (s.rs.getD (s.rs.length - 1 - (c.o % (s.rs.length : Int)).toNat) []) with
    | error flt => rw [hd] at h; cases h; exact hb
    | ok p =>
      obtain ⟨g, rest⟩ := p
      rw [hd] at h
      cases h
      intro i hi
      dsimp only at hi ⊢
      rw [List.length_set] at hi
      have hr := oneD_bytes (hb _ hj) hd
      by_cases e : i = s.rs.length - 1 - (c.o % (s.rs.length : Int)).toNat
      · have hj' : s.rs.length - 1 - (c.o % (s.rs.length : Int)).toNat < s.rs.length := hj
        rw [e, List.getD, List.getElem?_set_self hj']
        exact hr
      · rw [List.getD, List.getElem?_set_ne (fun h => e h.symm)]
        exact hb i hi
  · cases h; exact hb
end Go.Proofs.Ytffabihenhejfaa

namespace Go.Proofs.Ytffabihenhejfaa
open Go.RowKit
set_option linter.unusedVariables false

/-- The contract of (*f).run, for scripts that have so many calls left at most. -/
def RunC (W : World) (calls : List CV) (sb : Nat) (callsV : Value) (fuel : Nat) : Prop :=
  ∀ (w : World) (κ : Nat → Nat) (xb r g : Nat) (N : Int) (v : Value) (bs : List Int) (rb kb gs : List Nat) (rV kV tV eV : Value) (told : List ItV) (s : PS),
    Sc W w κ sb callsV rb kb gs rV kV tV eV told s rb → Live w rb gs s.rs → w.heap[xb]? = some (.cells #[.pointer (some ⟨sb, 0, none⟩), .int .i64 N] 41 (0, 0)) → κ xb = 0 → κ r = 6 → r < w.heap.size → r ∉ kb → Rd w r v true 0 → κ g = 7 → g < w.heap.size → IsR w g v bs → BytesOk bs →
    -9223372036854775808 ≤ N → N ≤ 9223372036854775807 → rb.length < 20 → 400 < s.pos + fuel → kb.length ≤ s.pos →
    Calls Try.prog 15 #[.pointer (some ⟨xb, 0, none⟩), .pointer (some ⟨r, 0, none⟩)] w (RunPost W calls κ w sb callsV (rb ++ [r]) (gs ++ [g]) fuel N { s with rs := s.rs ++ [bs], many := s.many + 1 })

/-- Behind an inner Read that answered: the stack may still hold more. -/
def LvX (W : World) (κ0 : Nat → Nat) (w0 : World) (sb : Nat) (callsV : Value) (rb gs : List Nat) (s : PS) (w : World) : Prop :=
  ∃ κ kb ex gR n rc kV tV eV told, Sc W w κ sb callsV (rb ++ ex) kb gs (.slice (some ⟨gR, 0, none⟩) n rc) kV tV eV told s rb ∧ Live w rb gs s.rs ∧ Kept (fun q => 1 ≤ κ0 q ∧ κ0 q ≤ 6) w0 w ∧ ∀ q, q < w0.heap.size → κ q = κ0 q

/-- What (*Script).inner leaves. -/
def InnerPost (W : World) (calls : List CV) (κ : Nat → Nat) (w : World) (sb : Nat) (callsV : Value) (rb gs : List Nat) (fuel : Nat) (cn : Int) (cxs : List Int) (s : PS) (e : Ending) (w' : World) : Prop :=
  (∃ t x, (play calls fuel cn { s with rs := s.rs ++ [cxs], many := s.many + 1 } = (t, none) ∧ x = tailOf (t.rs.getD rb.length []).length 0 ∨ play calls fuel cn { s with rs := s.rs ++ [cxs], many := s.many + 1 } = (t, some (rb.length, x))) ∧ e = .returned (.tuple #[]) ∧ LvX W κ w sb callsV rb gs { t with rs := t.rs.take rb.length, rets := t.rets ++ [x] } w') ∨
  ∃ t j flt older, play calls fuel cn { s with rs := s.rs ++ [cxs], many := s.many + 1 } = (t, some (j, flt)) ∧ j < rb.length ∧ Plain1 older ∧ e = .panicked ({ v := thrownV (rb.getD j 0), recovered := false } :: older) ∧ Tv W κ w sb callsV rb gs t j flt w'

theorem Try.info43 : (Try.prog.info? 43).map (fun i => (i.zero, i.size, i.bytes)) = some (some (.int .i64 0), 1, 8) := by kernel_rfl

theorem getD_last (l : List Nat) (x : Nat) : (l ++ [x]).getD l.length 0 = x := by simp [List.getD]
theorem getD_front (l : List Nat) (x i : Nat) (h : i < l.length) : (l ++ [x]).getD i 0 = l.getD i 0 := by rw [List.getD, List.getElem?_append_left h]; rfl

theorem Sc.new {W w w3 : World} {κ κ3 : Nat → Nat} {sb : Nat} {callsV : Value} {rb kb gs : List Nat} {rV kV tV eV : Value} {told : List ItV} {s : PS} {lv : List Nat} (h : Sc W w κ sb callsV rb kb gs rV kV tV eV told s lv) (hk : Kept (fun _ => False) w w3) (ha : ∀ q, q < w.heap.size → κ3 q = κ q) : Sc W w3 κ3 sb callsV rb kb gs rV kV tV eV told s lv :=
  ⟨h.rep.kept hk (fun _ _ f => f.elim) ha, h.base.trans hk, fun q hq => by rw [ha q (Nat.lt_of_lt_of_le hq h.base.size)]; exact h.b0 q hq, fun b hb hn => (h.dead b hb hn).kept hk (fun f => f), h.tl, h.el, h.kl, h.p4, h.bo⟩

theorem Live.new {w w3 : World} {rb gs : List Nat} {rs : List (List Int)} (h : Live w rb gs rs) (hk : Kept (fun _ => False) w w3) : Live w3 rb gs rs :=
  ⟨h.1, h.2.1, fun i hi => by obtain ⟨v, h1, h2⟩ := h.2.2 i hi; exact ⟨v, h1.kept hk (fun f => f), h2.kept hk (fun f => f)⟩⟩

/-- The names ahead of an inner Read's function. -/
def inκ (κ : Nat → Nat) (w : World) (g r : Nat) : Nat → Nat := fun q => if q = g then 7 else if q = r then 6 else if q < w.heap.size then κ q else 0

theorem inκ_old {κ : Nat → Nat} {w : World} {g r : Nat} (hg : w.heap.size ≤ g) (hr : w.heap.size ≤ r) : ∀ q, q < w.heap.size → inκ κ w g r q = κ q := fun q hq => by
  unfold inκ
  rw [if_neg (by omega), if_neg (by omega), if_pos hq]

theorem inner_run (W : World) (calls : List CV) (sb : Nat) (callsV : Value) (fuel : Nat) (hih : RunC W calls sb callsV fuel) (w w2 : World) (κ : Nat → Nat) (rb kb gs : List Nat) (rV kV tV eV : Value) (told : List ItV) (s : PS) (cn : Int) (cxs : List Int) (yb g n c : Nat)
    (hsc : Sc W w κ sb callsV rb kb gs rV kV tV eV told s rb) (hlive : Live w rb gs s.rs) (hk : Kept (fun _ => False) w w2) (hyb : w2.heap[yb]? = some (.cells #[.pointer (some ⟨sb, 0, none⟩), .int .i64 cn] 41 (0, 0))) (hy : w.heap.size ≤ yb) (hg : w.heap.size ≤ g) (hg2 : g < w2.heap.size) (hgy : g ≠ yb) (hir : IsR w2 g (.slice (some ⟨g, 0, none⟩) n c) cxs) (hco : BytesOk cxs)
    (hn0 : -9223372036854775808 ≤ cn) (hn1 : cn ≤ 9223372036854775807) (h20 : rb.length < 20) (hfu : 400 < s.pos + fuel) (hkl : kb.length ≤ s.pos) :
    Calls Try.prog 15 #[.pointer (some ⟨yb, 0, none⟩), .pointer (some ⟨w2.heap.size, 0, none⟩)] ((w2.alloc (.cells #[.slice (some ⟨g, 0, none⟩) n c, .bool true, .int .i64 0] 82)).alloc (.cells #[.pointer (some ⟨w2.heap.size, 0, none⟩)] 56)) (LedX w2.heap.size (w2.heap.size + 1)
      (fun m w' => ∃ t, play calls fuel cn { s with rs := s.rs ++ [cxs], many := s.many + 1 } = (t, none) ∧ m = (t.rs.getD rb.length []).length ∧ Lv W (inκ κ w g w2.heap.size) ((w2.alloc (.cells #[.slice (some ⟨g, 0, none⟩) n c, .bool true, .int .i64 0] 82)).alloc (.cells #[.pointer (some ⟨w2.heap.size, 0, none⟩)] 56)) sb callsV (rb ++ [w2.heap.size]) (gs ++ [g]) t w')
      (fun flt w' => ∃ t, play calls fuel cn { s with rs := s.rs ++ [cxs], many := s.many + 1 } = (t, some (rb.length, flt)) ∧ Tv W (inκ κ w g w2.heap.size) ((w2.alloc (.cells #[.slice (some ⟨g, 0, none⟩) n c, .bool true, .int .i64 0] 82)).alloc (.cells #[.pointer (some ⟨w2.heap.size, 0, none⟩)] 56)) sb callsV (rb ++ [w2.heap.size]) (gs ++ [g]) t rb.length flt w')
      (fun q w' => ∃ t j flt, q = rb.getD j 0 ∧ j < rb.length ∧ play calls fuel cn { s with rs := s.rs ++ [cxs], many := s.many + 1 } = (t, some (j, flt)) ∧ Tv W (inκ κ w g w2.heap.size) ((w2.alloc (.cells #[.slice (some ⟨g, 0, none⟩) n c, .bool true, .int .i64 0] 82)).alloc (.cells #[.pointer (some ⟨w2.heap.size, 0, none⟩)] 56)) sb callsV (rb ++ [w2.heap.size]) (gs ++ [g]) t j flt w')) := by
  have hk3 : Kept (fun _ => False) w2 ((w2.alloc (.cells #[.slice (some ⟨g, 0, none⟩) n c, .bool true, .int .i64 0] 82)).alloc (.cells #[.pointer (some ⟨w2.heap.size, 0, none⟩)] 56)) := ((Kept.refl _ _).alloc _).alloc _
  have hsz3 : ((w2.alloc (.cells #[.slice (some ⟨g, 0, none⟩) n c, .bool true, .int .i64 0] 82)).alloc (.cells #[.pointer (some ⟨w2.heap.size, 0, none⟩)] 56)).heap.size = w2.heap.size + 2 := by simp
  have hrd : Rd ((w2.alloc (.cells #[.slice (some ⟨g, 0, none⟩) n c, .bool true, .int .i64 0] 82)).alloc (.cells #[.pointer (some ⟨w2.heap.size, 0, none⟩)] 56)) w2.heap.size (.slice (some ⟨g, 0, none⟩) n c) true 0 := by
    unfold Rd
    rw [Below.heap_alloc _ _ _ (by simp)]
    exact heap_alloc_new w2 _
  have hbox : ((w2.alloc (.cells #[.slice (some ⟨g, 0, none⟩) n c, .bool true, .int .i64 0] 82)).alloc (.cells #[.pointer (some ⟨w2.heap.size, 0, none⟩)] 56)).cell? ⟨w2.heap.size + 1, 0, none⟩ = some (.pointer (some ⟨w2.heap.size, 0, none⟩)) := by
    have h := heap_alloc_new (w2.alloc (.cells #[.slice (some ⟨g, 0, none⟩) n c, .bool true, .int .i64 0] 82)) (.cells #[.pointer (some ⟨w2.heap.size, 0, none⟩)] 56)
    rw [show (w2.alloc (.cells #[.slice (some ⟨g, 0, none⟩) n c, .bool true, .int .i64 0] 82)).heap.size = w2.heap.size + 1 from by simp] at h
    rw [cell_block _ _ _ _ _ _ h]; rfl
  generalize ((w2.alloc (.cells #[.slice (some ⟨g, 0, none⟩) n c, .bool true, .int .i64 0] 82)).alloc (.cells #[.pointer (some ⟨w2.heap.size, 0, none⟩)] 56)) = w3 at *
  have hs2 := hk.size
  have hyl : yb < w2.heap.size := (Array.getElem?_eq_some_iff.1 hyb).1
  have hold := inκ_old (κ := κ) hg hs2
  have hkk := hk.trans hk3
  have hκr : inκ κ w g w2.heap.size w2.heap.size = 6 := by unfold inκ; rw [if_neg (by omega), if_pos rfl]
  have hκg : inκ κ w g w2.heap.size g = 7 := by unfold inκ; rw [if_pos rfl]
  have hκy : inκ κ w g w2.heap.size yb = 0 := by unfold inκ; rw [if_neg (fun e => hgy e.symm), if_neg (by omega), if_neg (by omega)]
  have hκp : inκ κ w g w2.heap.size (w2.heap.size + 1) = 0 := by unfold inκ; rw [if_neg (by omega), if_neg (by omega), if_neg (by omega)]
  have hrn : w2.heap.size ∉ kb := fun h => by have := (hsc.rep.c6 _ h).2; omega
  refine (hih w3 _ yb w2.heap.size g cn _ cxs rb kb gs rV kV tV eV told s (hsc.new hkk hold) (hlive.new hkk) ((hk3.block yb hyl (fun f => f)).trans hyb) hκy hκr (by omega) hrn hrd hκg (by omega) (hir.kept hk3 (fun f => f)) hco hn0 hn1 h20 hfu hkl).mono ?_
  have box : ∀ w', Kept (fun q => 1 ≤ inκ κ w g w2.heap.size q ∧ inκ κ w g w2.heap.size q ≤ 6) w3 w' → w'.cell? ⟨w2.heap.size + 1, 0, none⟩ = some (.pointer (some ⟨w2.heap.size, 0, none⟩)) := fun w' hk' => hk'.cell hbox (fun h => by have h1 := h.1; rw [hκp] at h1; omega)
  rintro e w' (⟨t, hp, rfl, κ', kb', rV', kV', tV', eV', told', h1, h2, h3, h4⟩ | ⟨t, j, flt, older, hp, hj, hpl, rfl, ht⟩)
  · obtain ⟨m1, m2, m3⟩ := h2
    obtain ⟨v, v1, v2⟩ := m3 rb.length (by simp)
    rw [getD_last] at v1
    rw [show (gs ++ [g]).getD rb.length 0 = g from by rw [← hlive.2.1]; exact getD_last gs g] at v2
    obtain ⟨ao, c', hv⟩ := v2.shape
    rw [hv] at v1
    exact .inl ⟨rfl, _, ⟨box w' h3, ao, c', true, v1⟩, t, hp, rfl, κ', kb', rV', kV', tV', eV', told', h1, ⟨m1, m2, m3⟩, h3, h4⟩
  · rw [List.length_append, List.length_singleton] at hj
    obtain ⟨κ', kb', ex, rV', kV', tV', eV', told', h1, h2, h2', h5, h6, h7, h3, h4⟩ := ht
    by_cases hjD : j = rb.length
    · subst hjD
      rw [getD_last] at h6
      rw [getD_last]
      refine .inr (.inl ⟨flt, older, hpl, rfl, h6, box w' h3, t, hp, κ', kb', ex, rV', kV', tV', eV', told', h1, h2, h2', h5, by rw [getD_last]; exact h6, h7, h3, h4⟩)
    · have hjl : j < rb.length := by omega
      rw [getD_front rb _ j hjl] at h6 ⊢
      have hmem : rb.getD j 0 ∈ rb := by rw [List.getD, List.getElem?_eq_getElem hjl]; exact List.getElem_mem hjl
      obtain ⟨ao, m, c', l, f, hr⟩ := h7 rb.length (by omega) (by simp)
      rw [getD_last] at hr
      refine .inr (.inr ⟨rb.getD j 0, older, fun e => hrn (by rw [← e]; exact hsc.rep.sub _ hmem), hpl, rfl, ⟨_, _, _, h6⟩, ⟨ao, m, c', l, f, hr⟩, box w' h3, t, j, flt, rfl, hjl, hp, κ', kb', ex, rV', kV', tV', eV', told', h1, h2, h2', h5, by rw [getD_front rb _ j hjl]; exact h6, h7, h3, h4⟩)

/-- LvX, and the memory that was lent bears its name. -/
def LvG (W : World) (κ0 : Nat → Nat) (w0 : World) (sb : Nat) (callsV : Value) (rb gs : List Nat) (s : PS) (g : Nat) (w : World) : Prop :=
  ∃ κ kb ex gR n rc kV tV eV told, Sc W w κ sb callsV (rb ++ ex) kb gs (.slice (some ⟨gR, 0, none⟩) n rc) kV tV eV told s rb ∧ Live w rb gs s.rs ∧ Kept (fun q => 1 ≤ κ0 q ∧ κ0 q ≤ 6) w0 w ∧ (∀ q, q < w0.heap.size → κ q = κ0 q) ∧ κ g = 7

section
variable {W w w2 w3 w1 w4 : World} {κ : Nat → Nat} {sb g r : Nat} {callsV : Value} {rb gs : List Nat} {t : PS}

theorem kept_in (hk : Kept (fun _ => False) w w3) (hg : w.heap.size ≤ g) (hr : w.heap.size ≤ r) (h3 : Kept (fun q => 1 ≤ inκ κ w g r q ∧ inκ κ w g r q ≤ 6) w3 w1) (h4 : Kept (fun k => k = r) w1 w4) : Kept (fun q => 1 ≤ κ q ∧ κ q ≤ 6) w w4 :=
  ((hk.mono (fun _ _ f => f.elim)).step h3 (fun q hq e => by rw [inκ_old hg hr q hq] at e; exact e)).step h4 (fun q hq e => by omega)

/-- An inner Read's function has returned, and the Read has ended. -/
theorem after_ret (hk : Kept (fun _ => False) w w3) (hg : w.heap.size ≤ g) (hr : w.heap.size ≤ r) (hg3 : g < w3.heap.size) (hgr : g ≠ r) (hrl : ∀ b, b ∈ rb → b < w.heap.size) (hgl : ∀ b, b ∈ gs → b < w.heap.size) (hgsl : gs.length = rb.length) (h : Lv W (inκ κ w g r) w3 sb callsV (rb ++ [r]) (gs ++ [g]) t w1) (hd : Dead w4 r) (hk4 : Kept (fun k => k = r) w1 w4) :
    LvG W κ w sb callsV rb gs { t with rs := t.rs.take rb.length } g w4 := by
  obtain ⟨κ', kb, rV, kV, tV, eV, told, h1, ⟨m1, m2, m3⟩, h3, h5⟩ := h
  have hs := hk.size
  have hs3 := h3.size
  have hlen : t.rs.length = rb.length + 1 := by rw [m1, List.length_append]; rfl
  have htk : (t.rs.take rb.length).length = rb.length := by rw [List.length_take]; omega
  have hκg : κ' g = 7 := by rw [h5 g hg3]; unfold inκ; rw [if_pos rfl]
  have hr6 : κ' r = 6 := (h1.rep.c6 r (h1.rep.sub r (by simp))).1
  obtain ⟨gR, rc, hrV⟩ : ∃ gR rc, rV = .slice (some ⟨gR, 0, none⟩) (rb ++ [r]).length rc := by
    rcases World.ownsRow.mk' h1.rep.rrow with ⟨_, h0⟩ | ⟨g', cap, e⟩
    · simp at h0
    · exact ⟨g', cap, e⟩
  subst hrV
  have hmem : ∀ i, i < rb.length → rb.getD i 0 ∈ rb := fun i hi => by rw [List.getD, List.getElem?_eq_getElem hi]; exact List.getElem_mem hi
  refine ⟨κ', kb, [r], gR, _, rc, kV, tV, eV, told, ⟨((h1.rep.kept hk4 (fun q hq e => .inl (by rw [e]; exact hr6)) (fun _ _ => rfl)).lent gs (fun b hb => ?_)).setrs _, h1.base.step hk4 (fun q hq e => ?_), h1.b0, fun b hb hn => ?_, h1.tl, h1.el, h1.kl, h1.p4, fun i hi => ?_⟩, ⟨htk, hgsl, fun i hi => ?_⟩, kept_in hk hg hr h3 hk4, fun q hq => by rw [h5 q (by omega)]; exact inκ_old hg hr q hq, hκg⟩
  · have := h1.rep.c7 b (List.mem_append_left _ hb)
    exact ⟨this.1, Nat.lt_of_lt_of_le this.2 hk4.size⟩
  · have h0 := h1.b0 q hq
    rw [e, hr6] at h0
    omega
  · by_cases e : b = r
    · rw [e]; exact hd
    · exact (h1.dead b hb (fun h => by rcases List.mem_append.1 h with h | h; exact hn h; exact e (List.mem_singleton.1 h))).kept hk4 e
  · dsimp only at hi ⊢
    rw [htk] at hi
    have := h1.bo i (by omega)
    rw [List.getD] at this
    rw [List.getD, List.getElem?_take, if_pos hi]
    exact this
  · obtain ⟨v, v1, v2⟩ := m3 i (by simp; omega)
    rw [getD_front rb r i hi] at v1
    rw [getD_front gs g i (by omega)] at v2
    have e1 := hrl _ (hmem i hi)
    have e2 := hgl (gs.getD i 0) (by rw [List.getD, List.getElem?_eq_getElem (show i < gs.length by omega)]; exact List.getElem_mem _)
    refine ⟨v, v1.kept hk4 (by omega), ?_⟩
    dsimp only
    rw [show (t.rs.take rb.length).getD i [] = t.rs.getD i [] from by rw [List.getD, List.getElem?_take, if_pos hi]; rfl]
    exact v2.kept hk4 (by omega)

/-- An inner Read's function has thrown its own Reader's fault, and the Read has caught it. -/
theorem after_caught {flt : Int} (hk : Kept (fun _ => False) w w3) (hg : w.heap.size ≤ g) (hr : w.heap.size ≤ r) (hg3 : g < w3.heap.size) (hgr : g ≠ r) (hrl : ∀ b, b ∈ rb → b < w.heap.size) (hgl : ∀ b, b ∈ gs → b < w.heap.size) (hgsl : gs.length = rb.length) (h : Tv W (inκ κ w g r) w3 sb callsV (rb ++ [r]) (gs ++ [g]) t rb.length flt w1) (hd : Dead w4 r) (hk4 : Kept (fun k => k = r) w1 w4) :
    LvG W κ w sb callsV rb gs { t with rs := t.rs.take rb.length } g w4 := by
  obtain ⟨κ', kb, ex, rV, kV, tV, eV, told, h1, hlr, m2, m3, _, _, h3, h5⟩ := h
  have hs := hk.size
  have hs3 := h3.size
  rw [List.length_append, List.length_singleton] at hlr
  have htk : (t.rs.take rb.length).length = rb.length := by rw [List.length_take]; omega
  have hκg : κ' g = 7 := by rw [h5 g hg3]; unfold inκ; rw [if_pos rfl]
  have hr6 : κ' r = 6 := (h1.rep.c6 r (h1.rep.sub r (by simp))).1
  obtain ⟨gR, rc, hrV⟩ : ∃ gR rc, rV = .slice (some ⟨gR, 0, none⟩) (rb ++ [r] ++ ex).length rc := by
    rcases World.ownsRow.mk' h1.rep.rrow with ⟨_, h0⟩ | ⟨g', cap, e⟩
    · simp at h0
    · exact ⟨g', cap, e⟩
  subst hrV
  have hmem : ∀ i, i < rb.length → rb.getD i 0 ∈ rb := fun i hi => by rw [List.getD, List.getElem?_eq_getElem hi]; exact List.getElem_mem hi
  refine ⟨κ', kb, [r] ++ ex, gR, _, rc, kV, tV, eV, told, ⟨((((by rw [← List.append_assoc]; exact h1.rep : Rep w1 κ' sb callsV (rb ++ ([r] ++ ex)) kb (gs ++ [g]) _ kV tV eV told t)).kept hk4 (fun q hq e => .inl (by rw [e]; exact hr6)) (fun _ _ => rfl)).lent gs (fun b hb => ?_)).setrs _, h1.base.step hk4 (fun q hq e => ?_), h1.b0, fun b hb hn => ?_, h1.tl, h1.el, h1.kl, h1.p4, fun i hi => ?_⟩, ⟨htk, hgsl, fun i hi => ?_⟩, kept_in hk hg hr h3 hk4, fun q hq => by rw [h5 q (by omega)]; exact inκ_old hg hr q hq, hκg⟩
  · have := h1.rep.c7 b (List.mem_append_left _ hb)
    exact ⟨this.1, Nat.lt_of_lt_of_le this.2 hk4.size⟩
  · have h0 := h1.b0 q hq
    rw [e, hr6] at h0
    omega
  · by_cases e : b = r
    · rw [e]; exact hd
    · exact (h1.dead b hb (fun h => by rcases List.mem_append.1 h with h | h; exact hn h; exact e (List.mem_singleton.1 h))).kept hk4 e
  · dsimp only at hi ⊢
    rw [htk] at hi
    have := h1.bo i (by omega)
    rw [List.getD] at this
    rw [List.getD, List.getElem?_take, if_pos hi]
    exact this
  · obtain ⟨v, v1, v2⟩ := m3 i hi
    rw [getD_front rb r i hi] at v1
    rw [getD_front gs g i (by omega)] at v2
    have e1 := hrl _ (hmem i hi)
    have e2 := hgl (gs.getD i 0) (by rw [List.getD, List.getElem?_eq_getElem (show i < gs.length by omega)]; exact List.getElem_mem _)
    refine ⟨v, v1.kept hk4 (by omega), ?_⟩
    dsimp only
    rw [show (t.rs.take rb.length).getD i [] = t.rs.getD i [] from by rw [List.getD, List.getElem?_take, if_pos hi]; rfl]
    exact v2.kept hk4 (by omega)

/-- An inner Read lets an outer Reader's fault go by. -/
theorem after_pass {flt : Int} {j : Nat} (hj : j < rb.length) (hk : Kept (fun _ => False) w w3) (hg : w.heap.size ≤ g) (hr : w.heap.size ≤ r) (hrl : ∀ b, b ∈ rb → b < w.heap.size) (hgl : ∀ b, b ∈ gs → b < w.heap.size) (hgsl : gs.length = rb.length) (h : Tv W (inκ κ w g r) w3 sb callsV (rb ++ [r]) (gs ++ [g]) t j flt w1) (hd : Dead w4 r) (hk4 : Kept (fun k => k = r) w1 w4) :
    Tv W κ w sb callsV rb gs t j flt w4 := by
  obtain ⟨κ', kb, ex, rV, kV, tV, eV, told, h1, hlr, m2, m3, m4, m5, h3, h5⟩ := h
  have hs := hk.size
  have hs3 := h3.size
  rw [List.length_append, List.length_singleton] at hlr
  have hr6 : κ' r = 6 := (h1.rep.c6 r (h1.rep.sub r (by simp))).1
  have hmem : ∀ i, i < rb.length → rb.getD i 0 ∈ rb := fun i hi => by rw [List.getD, List.getElem?_eq_getElem hi]; exact List.getElem_mem hi
  rw [getD_front rb r j hj] at m4
  refine ⟨κ', kb, [r] ++ ex, rV, kV, tV, eV, told, ⟨((by rw [← List.append_assoc]; exact h1.rep : Rep w1 κ' sb callsV (rb ++ ([r] ++ ex)) kb (gs ++ [g]) rV kV tV eV told t)).kept hk4 (fun q hq e => .inl (by rw [e]; exact hr6)) (fun _ _ => rfl) |>.lent gs (fun b hb => ?_), h1.base.step hk4 (fun q hq e => ?_), h1.b0, fun b hb hn => ?_, h1.tl, h1.el, h1.kl, h1.p4, h1.bo⟩, by omega, hgsl, fun i hi => ?_, m4.kept hk4 (by have := hrl _ (hmem j hj); omega), fun i hi hi2 => ?_, kept_in hk hg hr h3 hk4, fun q hq => by rw [h5 q (by omega)]; exact inκ_old hg hr q hq⟩
  · have := h1.rep.c7 b (List.mem_append_left _ hb)
    exact ⟨this.1, Nat.lt_of_lt_of_le this.2 hk4.size⟩
  · have h0 := h1.b0 q hq
    rw [e, hr6] at h0
    omega
  · by_cases e : b = r
    · rw [e]; exact hd
    · exact (h1.dead b hb (fun h => by rcases List.mem_append.1 h with h | h; exact hn h; exact e (List.mem_singleton.1 h))).kept hk4 e
  · obtain ⟨v, v1, v2⟩ := m3 i hi
    rw [getD_front rb r i (by omega)] at v1
    rw [getD_front gs g i (by omega)] at v2
    have e1 := hrl _ (hmem i (by omega))
    have e2 := hgl (gs.getD i 0) (by rw [List.getD, List.getElem?_eq_getElem (show i < gs.length by omega)]; exact List.getElem_mem _)
    exact ⟨v, v1.kept hk4 (by omega), v2.kept hk4 (by omega)⟩
  · obtain ⟨ao, n, c, l, f, hh⟩ := m5 i hi (by simp; omega)
    rw [getD_front rb r i hi2] at hh
    exact ⟨ao, n, c, l, f, hh.kept hk4 (by have := hrl _ (hmem i hi2); omega)⟩
end
end Go.Proofs.Ytffabihenhejfaa

namespace Go.Proofs.Ytffabihenhejfaa
open Go.RowKit Go.Deep
set_option linter.unusedVariables false
set_option linter.unusedSimpArgs false

theorem callP_rets (c : CV) (s : PS) : (callP c s).1.rets = s.rets := by
  unfold callP
  by_cases h : 1 ≤ c.k ∧ c.k ≤ 9
  · rw [if_pos h]
    cases oneD c.k c.n (s.rs.getD (s.rs.length - 1 - (c.o % (s.rs.length : Int)).toNat) []) with
    | error flt => rfl
    | ok p => rfl
  · rw [if_neg h]

/-- No more Reads answer than calls were taken. -/
theorem play_rets (calls : List CV) (fuel : Nat) : ∀ (n : Int) (s : PS), (play calls fuel n s).1.rets.length + s.pos ≤ (play calls fuel n s).1.pos + s.rets.length := by
  induction fuel with
  | zero => intro n s; exact Nat.le_of_eq (Nat.add_comm _ _)
  | succ fuel ih =>
    intro n s
    unfold play
    by_cases h : 0 < n ∧ s.pos < calls.length ∧ s.pos < 400
    · rw [if_pos h]
      generalize calls.getD s.pos CV.default = c
      by_cases h10 : c.k = 10
      · rw [if_pos h10]
        by_cases h20 : s.rs.length < 20
        · rw [if_pos h20]
          have h1 := ih c.n { s with pos := s.pos + 1, rs := s.rs ++ [c.xs], many := s.many + 1 }
          cases hp : play calls fuel c.n { s with pos := s.pos + 1, rs := s.rs ++ [c.xs], many := s.many + 1 } with
          | mk t o =>
            rw [hp] at h1
            dsimp only at h1
            cases o with
            | none =>
              dsimp only
              have h2 := ih (n - 1) { t with rs := t.rs.take s.rs.length, rets := t.rets ++ [tailOf (t.rs.getD s.rs.length []).length 0] }
              dsimp only at h2
              rw [List.length_append, List.length_singleton] at h2
              omega
            | some jf =>
              obtain ⟨j, flt⟩ := jf
              dsimp only
              by_cases hj : j = s.rs.length
              · rw [if_pos hj]
                have h2 := ih (n - 1) { t with rs := t.rs.take s.rs.length, rets := t.rets ++ [flt] }
                dsimp only at h2
                rw [List.length_append, List.length_singleton] at h2
                omega
              · rw [if_neg hj]
                dsimp only
                omega
        · rw [if_neg h20]
          have h2 := ih (n - 1) { s with pos := s.pos + 1 }
          dsimp only at h2
          omega
      · rw [if_neg h10]
        have hc := (callP_pos c { s with pos := s.pos + 1 }).1
        have hc2 := callP_rets c { s with pos := s.pos + 1 }
        cases hp : callP c { s with pos := s.pos + 1 } with
        | mk t o =>
          rw [hp] at hc hc2
          dsimp only at hc hc2
          cases o with
          | none =>
            dsimp only
            have h2 := ih (n - 1) t
            rw [hc2] at h2
            omega
          | some jf =>
            dsimp only
            rw [hc2]
            omega
    · rw [if_neg h]
      exact Nat.le_of_eq (Nat.add_comm _ _)

theorem hat_of1 {v v' : Value} {n : Nat} (h : v'.ownBlock = v.ownBlock ∨ v'.ownBlock = some (n + 1)) : v'.ownBlock = v.ownBlock ∨ ∀ q, v'.ownBlock = some q → n ≤ q := by
  rcases h with h | h
  · exact .inl h
  · exact .inr (fun q hq => by rw [h] at hq; have := Option.some.inj hq; omega)

theorem LvG.base {W w w0 : World} {κ0 : Nat → Nat} {sb g : Nat} {callsV : Value} {rb gs : List Nat} {s : PS} (h : LvG W κ0 w0 sb callsV rb gs s g w) : Kept (fun _ => False) W w := by
  obtain ⟨κ5, kb5, ex, gR, m, rc, kV5, tV5, eV5, told5, hsc5, hlive5, hkp5, hag5, hg5⟩ := h
  exact hsc5.base

theorem Sc.gslt {W w : World} {κ : Nat → Nat} {sb : Nat} {callsV : Value} {rb kb gs : List Nat} {rV kV tV eV : Value} {told : List ItV} {s : PS} {lv : List Nat} (h : Sc W w κ sb callsV rb kb gs rV kV tV eV told s lv) : ∀ b, b ∈ gs → b < w.heap.size := fun b hb => (h.rep.c7 b hb).2
theorem Sc.rblt {W w : World} {κ : Nat → Nat} {sb : Nat} {callsV : Value} {rb kb gs : List Nat} {rV kV tV eV : Value} {told : List ItV} {s : PS} {lv : List Nat} (h : Sc W w κ sb callsV rb kb gs rV kV tV eV told s lv) : ∀ b, b ∈ rb → b < w.heap.size := fun b hb => (h.rep.c6 b (h.rep.sub b hb)).2

/-- The lent memory is looked at, and its last bytes may turn. -/
theorem after_back {W w w0 w5 : World} {κ0 : Nat → Nat} {sb g : Nat} {callsV : Value} {rb gs : List Nat} {s : PS} (h : LvG W κ0 w0 sb callsV rb gs s g w) (hk : Kept (fun k => k = g) w w5) (hg : w0.heap.size ≤ g) (hgl : ∀ b, b ∈ gs → b < w0.heap.size) : LvG W κ0 w0 sb callsV rb gs s g w5 := by
  obtain ⟨κ, kb, ex, gR, m, rc, kV, tV, eV, told, hsc, ⟨l1, l2, l3⟩, hkp, hag, hg7⟩ := h
  have hmem : ∀ i, i < rb.length → rb.getD i 0 ∈ rb := fun i hi => by rw [List.getD, List.getElem?_eq_getElem hi]; exact List.getElem_mem hi
  have n6 : ∀ b, b ∈ kb → ¬ b = g := fun b hb e => by have := (hsc.rep.c6 b hb).1; rw [e, hg7] at this; omega
  refine ⟨κ, kb, ex, gR, m, rc, kV, tV, eV, told, ⟨hsc.rep.kept hk (fun q hq e => .inr (.inl (by rw [e]; exact hg7))) (fun _ _ => rfl), hsc.base.step hk (fun q hq e => ?_), hsc.b0, fun b hb hn => (hsc.dead b hb hn).kept hk (n6 b hb), hsc.tl, hsc.el, hsc.kl, hsc.p4, hsc.bo⟩, ⟨l1, l2, fun i hi => ?_⟩, hkp.step hk (fun q hq e => by omega), hag, hg7⟩
  · have := hsc.b0 q hq
    rw [e, hg7] at this
    omega
  · obtain ⟨v, v1, v2⟩ := l3 i hi
    have e2 := hgl (gs.getD i 0) (by rw [List.getD, List.getElem?_eq_getElem (show i < gs.length by omega)]; exact List.getElem_mem _)
    exact ⟨v, v1.kept hk (n6 _ (hsc.rep.sub _ (List.mem_append_left _ (hmem i hi)))), v2.kept hk (by omega)⟩

/-- A number is put onto Return. -/
theorem Sc.ret {W w w5 : World} {κ : Nat → Nat} {sb : Nat} {callsV : Value} {rb kb gs : List Nat} {rV kV tV eV eV' : Value} {told : List ItV} {s : PS} {lv : List Nat} {x : Int} (h : Sc W w κ sb callsV rb kb gs rV kV tV eV told s lv) (hl : Live w lv gs s.rs) (hlv : ∀ b, b ∈ lv → b ∈ kb) (hrl : s.rets.length < s.pos) (hown : w5.ownsRow 0 43 1 eV' (s.rets.length + 1) (s.rets.map (Value.int .i64) ++ [.int .i64 x])) (hk : Kept (fun q => eV.ownBlock = some q) w w5) (hat : eV'.ownBlock = eV.ownBlock ∨ ∀ q, eV'.ownBlock = some q → w.heap.size ≤ q) :
    Sc W (w5.setCell ⟨sb, 5, none⟩ eV') (named κ eV' 5) sb callsV rb kb gs rV kV tV eV' told { s with rets := s.rets ++ [x] } lv ∧ Live (w5.setCell ⟨sb, 5, none⟩ eV') lv gs s.rs ∧ Kept (fun q => κ q = 1 ∨ κ q = 5) w (w5.setCell ⟨sb, 5, none⟩ eV') ∧ (∀ q, q < w.heap.size → named κ eV' 5 q = κ q) := by
  obtain ⟨r1, r2, r3⟩ := h.rep.ret hown hk hat
  obtain ⟨l1, l2, l3⟩ := hl
  have hmem : ∀ i, i < lv.length → lv.getD i 0 ∈ lv := fun i hi => by rw [List.getD, List.getElem?_eq_getElem hi]; exact List.getElem_mem hi
  refine ⟨⟨r1, h.base.step r2 (fun q hq e => by have := h.b0 q hq; omega), fun q hq => by rw [r3 q (Nat.lt_of_lt_of_le hq h.base.size)]; exact h.b0 q hq, fun b hb hn => (h.dead b hb hn).kept r2 (fun e => by have := (h.rep.c6 b hb).1; omega), h.tl, ?_, h.kl, h.p4, h.bo⟩, ⟨l1, l2, fun i hi => ?_⟩, r2, r3⟩
  · dsimp only
    rw [List.length_append, List.length_singleton]
    omega
  · obtain ⟨v, v1, v2⟩ := l3 i hi
    have e1 := (h.rep.c6 _ (hlv _ (hmem i hi))).1
    have e2 := (h.rep.c7 (gs.getD i 0) (by rw [List.getD, List.getElem?_eq_getElem (show i < gs.length by omega)]; exact List.getElem_mem _)).1
    exact ⟨v, v1.kept r2 (by omega), v2.kept r2 (by omega)⟩

theorem InnerPost.drew {W w w' : World} {calls : List CV} {κ : Nat → Nat} {sb fuel : Nat} {callsV : Value} {rb gs : List Nat} {cn : Int} {cxs : List Int} {s : PS} (h : InnerPost W calls κ w sb callsV rb gs fuel cn cxs s (.returned (.tuple #[])) w') : InnerPost W calls κ w sb callsV rb gs fuel cn cxs s (.returned (.tuple #[])) w'.drew := by
  have hk : Kept (fun _ => False) w' w'.drew := (Kept.refl _ _).drew
  rcases h with ⟨t, x, h1, h2, κ', kb, ex, gR, n, rc, kV, tV, eV, told, h3, h4, h5, h6⟩ | ⟨_, _, _, _, _, _, _, h, _⟩
  · exact .inl ⟨t, x, h1, h2, κ', kb, ex, gR, n, rc, kV, tV, eV, told, h3.new hk (fun _ _ => rfl), h4.new hk, h5.drew, h6⟩
  · cases h

/-- The inner Read itself. -/
theorem inner_read (W : World) (calls : List CV) (sb : Nat) (callsV : Value) (fuel : Nat) (hih : RunC W calls sb callsV fuel) (w w2 : World) (κ : Nat → Nat) (rb kb gs : List Nat) (rV kV tV eV : Value) (told : List ItV) (s : PS) (cn : Int) (cxs : List Int) (yb g : Nat)
    (hsc : Sc W w κ sb callsV rb kb gs rV kV tV eV told s rb) (hlive : Live w rb gs s.rs) (hk : Kept (fun _ => False) w w2) (hyb : w2.heap[yb]? = some (.cells #[.pointer (some ⟨sb, 0, none⟩), .int .i64 cn] 41 (0, 0))) (hy : w.heap.size ≤ yb) (hg : w.heap.size ≤ g) (hg2 : g < w2.heap.size) (hgy : g ≠ yb) (hle : Lent w2 g cxs 5) (hco : BytesOk cxs)
    (hn0 : -9223372036854775808 ≤ cn) (hn1 : cn ≤ 9223372036854775807) (h20 : rb.length < 20) (hfu : 400 < s.pos + fuel) (hkl : kb.length ≤ s.pos) (hrl : s.rets.length < s.pos) :
    Calls Try.prog 14 #[.slice (some ⟨g, 0, none⟩) cxs.length (cxs.length + 5), .func (.func 15) #[.pointer (some ⟨yb, 0, none⟩)] #[]] w2 fun e w4 =>
      (∃ t x, (play calls fuel cn { s with rs := s.rs ++ [cxs], many := s.many + 1 } = (t, none) ∧ x = tailOf (t.rs.getD rb.length []).length 0 ∨ play calls fuel cn { s with rs := s.rs ++ [cxs], many := s.many + 1 } = (t, some (rb.length, x))) ∧ e = .returned (.int .i64 x) ∧ LvG W κ w sb callsV rb gs { t with rs := t.rs.take rb.length } g w4 ∧ Lent w4 g cxs 5 ∧ Kept (fun q => q < w.heap.size ∧ 1 ≤ κ q ∧ κ q ≤ 6) w2 w4 ∧ t.rets.length < t.pos) ∨
      ∃ t j flt older, play calls fuel cn { s with rs := s.rs ++ [cxs], many := s.many + 1 } = (t, some (j, flt)) ∧ j < rb.length ∧ Plain1 older ∧ e = .panicked ({ v := thrownV (rb.getD j 0), recovered := false } :: older) ∧ Tv W κ w sb callsV rb gs t j flt w4 := by
  have hir : IsR w2 g (.slice (some ⟨g, 0, none⟩) cxs.length (cxs.length + 5)) cxs := by
    have := hco.2
    obtain ⟨cur, l0, l1, l2, l3⟩ := hle
    exact .inr ⟨0, cxs.length + 5, rfl, by omega, by omega, by unfold maxLen; omega, fun i hi => by rw [cell_block _ _ _ _ _ _ l0, Nat.zero_add]; exact l2 i hi⟩
  have hs := hk.size
  have hk3 : Kept (fun _ => False) w2 ((w2.alloc (.cells #[.slice (some ⟨g, 0, none⟩) cxs.length (cxs.length + 5), .bool true, .int .i64 0] 82)).alloc (.cells #[.pointer (some ⟨w2.heap.size, 0, none⟩)] 56)) := ((Kept.refl _ _).alloc _).alloc _
  have hir' := inner_run W calls sb callsV fuel hih w w2 κ rb kb gs rV kV tV eV told s cn cxs yb g _ _ hsc hlive hk hyb hy hg hg2 hgy hir hco hn0 hn1 h20 hfu hkl
  refine (read_x (.pointer (some ⟨yb, 0, none⟩)) _ _ _ w2 _ _ _ hir').mono ?_
  clear hir'
  have hkk := hk.trans hk3
  have hgr : g ≠ w2.heap.size := by omega
  have k3s := hk3.size
  have hret : ∀ {t o}, play calls fuel cn { s with rs := s.rs ++ [cxs], many := s.many + 1 } = (t, o) → t.rets.length < t.pos := fun {t o} hp => by
    have := play_rets calls fuel cn { s with rs := s.rs ++ [cxs], many := s.many + 1 }
    rw [hp] at this
    dsimp only at this
    omega
  have kk : ∀ {w1 w4 : World}, Kept (fun q => 1 ≤ inκ κ w g w2.heap.size q ∧ inκ κ w g w2.heap.size q ≤ 6) ((w2.alloc (.cells #[.slice (some ⟨g, 0, none⟩) cxs.length (cxs.length + 5), .bool true, .int .i64 0] 82)).alloc (.cells #[.pointer (some ⟨w2.heap.size, 0, none⟩)] 56)) w1 → Kept (fun k => k = w2.heap.size) w1 w4 → Kept (fun q => q < w.heap.size ∧ 1 ≤ κ q ∧ κ q ≤ 6) w2 w4 := fun {w1 w4} h1 h2 => by
    refine ((hk3.mono (fun _ _ f => f.elim)).step h1 (fun q hq e => ?_)).step h2 (fun q hq e => by omega)
    unfold inκ at e
    by_cases e1 : q = g
    · rw [if_pos e1] at e; omega
    · rw [if_neg e1, if_neg (by omega)] at e
      by_cases e2 : q < w.heap.size
      · rw [if_pos e2] at e; exact ⟨e2, e⟩
      · rw [if_neg e2] at e; omega
  rintro e w4 (⟨m, w1, rfl, ⟨t, hp, rfl, hlv⟩, hd, hk4⟩ | ⟨flt, w1, rfl, ⟨t, hp, htv⟩, hd, hk4⟩ | ⟨q, older, w1, hne, hpl, rfl, ⟨t, j, flt, rfl, hj, hp, htv⟩, hd, hk4⟩)
  · have hkp : Kept (fun q => q < w.heap.size ∧ 1 ≤ κ q ∧ κ q ≤ 6) w2 w4 := by
      obtain ⟨_, _, _, _, _, _, _, _, _, h3, _⟩ := hlv
      exact kk h3 hk4
    exact .inl ⟨t, _, .inl ⟨hp, rfl⟩, rfl, after_ret hkk hg hs (by omega) hgr hsc.rblt hsc.gslt hlive.2.1 hlv ⟨_, hd⟩ hk4, hle.kept hkp (fun h => by omega), hkp, hret hp⟩
  · have hkp : Kept (fun q => q < w.heap.size ∧ 1 ≤ κ q ∧ κ q ≤ 6) w2 w4 := by
      obtain ⟨_, _, _, _, _, _, _, _, _, _, _, _, _, _, h3, _⟩ := htv
      exact kk h3 hk4
    exact .inl ⟨t, _, .inr hp, rfl, after_caught hkk hg hs (by omega) hgr hsc.rblt hsc.gslt hlive.2.1 htv ⟨_, hd⟩ hk4, hle.kept hkp (fun h => by omega), hkp, hret hp⟩
  · exact .inr ⟨t, j, flt, older, hp, hj, hpl, rfl, after_pass hj hkk hg hs hsc.rblt hsc.gslt hlive.2.1 htv hd hk4⟩

set_option maxRecDepth 100000 in
set_option maxHeartbeats 4000000 in
theorem inner_any (W : World) (calls : List CV) (sb : Nat) (callsV : Value) (fuel : Nat) (hih : RunC W calls sb callsV fuel) (w : World) (κ : Nat → Nat) (rb kb gs : List Nat) (rV kV tV eV : Value) (told : List ItV) (s : PS) (ck cn co : Int) (cao : Option Addr) (cc : Nat) (cxs : List Int)
    (hsc : Sc W w κ sb callsV rb kb gs rV kV tV eV told s rb) (hlive : Live w rb gs s.rs) (hcb : IsB W (.slice cao cxs.length cc) cxs) (hco : BytesOk cxs) (hn0 : -9223372036854775808 ≤ cn) (hn1 : cn ≤ 9223372036854775807) (h20 : rb.length < 20) (hfu : 400 < s.pos + fuel) (hkl : kb.length ≤ s.pos) (hrl : s.rets.length < s.pos) :
    Calls Try.prog 37 #[.pointer (some ⟨sb, 0, none⟩), .agg #[.int .i64 ck, .int .i64 cn, .int .i64 co, .slice cao cxs.length cc]] w (InnerPost W calls κ w sb callsV rb gs fuel cn cxs s) := by
  obtain ⟨i43, hi43, z430, z431, z432⟩ := info_parts Try.info43
  obtain ⟨l1, l2, l3⟩ := hlive
  -- the boxes
  have hk1 : Kept (fun _ => False) w ((w.alloc (.cells #[.int .i64 ck, .int .i64 cn, .int .i64 co, .slice cao cxs.length cc] 85)).alloc (.cells #[.pointer (some ⟨sb, 0, none⟩), .int .i64 cn] 41)) := ((Kept.refl _ _).alloc _).alloc _
  have hz1 : ((w.alloc (.cells #[.int .i64 ck, .int .i64 cn, .int .i64 co, .slice cao cxs.length cc] 85)).alloc (.cells #[.pointer (some ⟨sb, 0, none⟩), .int .i64 cn] 41)).heap.size = w.heap.size + 1 + 1 := by simp
  have hbx : ((w.alloc (.cells #[.int .i64 ck, .int .i64 cn, .int .i64 co, .slice cao cxs.length cc] 85)).alloc (.cells #[.pointer (some ⟨sb, 0, none⟩), .int .i64 cn] 41)).heap[w.heap.size]? = some (.cells #[.int .i64 ck, .int .i64 cn, .int .i64 co, .slice cao cxs.length cc] 85 (0, 0)) := by
    rw [Below.heap_alloc _ _ _ (by simp)]
    exact heap_alloc_new w _
  have hby : ((w.alloc (.cells #[.int .i64 ck, .int .i64 cn, .int .i64 co, .slice cao cxs.length cc] 85)).alloc (.cells #[.pointer (some ⟨sb, 0, none⟩), .int .i64 cn] 41)).heap[w.heap.size + 1]? = some (.cells #[.pointer (some ⟨sb, 0, none⟩), .int .i64 cn] 41 (0, 0)) := by
    have := heap_alloc_new (w.alloc (.cells #[.int .i64 ck, .int .i64 cn, .int .i64 co, .slice cao cxs.length cc] 85)) (.cells #[.pointer (some ⟨sb, 0, none⟩), .int .i64 cn] 41)
    rw [show (w.alloc (.cells #[.int .i64 ck, .int .i64 cn, .int .i64 co, .slice cao cxs.length cc] 85)).heap.size = w.heap.size + 1 from by simp] at this
    exact this
  have b3 : ((w.alloc (.cells #[.int .i64 ck, .int .i64 cn, .int .i64 co, .slice cao cxs.length cc] 85)).alloc (.cells #[.pointer (some ⟨sb, 0, none⟩), .int .i64 cn] 41)).cell? ⟨w.heap.size, 3, none⟩ = some (.slice cao cxs.length cc) := by rw [cell_block _ _ _ _ _ _ hbx]; rfl
  have HLD := hid_of (lend_any (.slice cao cxs.length cc) cxs _ (hcb.kept (hsc.base.trans hk1) (fun _ _ f => f)) (by have := hco.2; omega))
  have HSC := hid_of hsc
  have HL3 := hid_of l3
  have HIH := hid_of hih
  have HBX := hid_of hbx
  have HBY := hid_of hby
  have HK1 := hid_of hk1
  have HZ1 := hid_of hz1
  have HCB := hid_of hcb
  have HCO := hid_of hco
  obtain ⟨n, hn⟩ : ∃ n, n = cxs.length := ⟨_, rfl⟩
  have HNN := hid_of hn
  have hnl : n ≤ 140737488351232 := by rw [hn]; exact hco.2
  rw [← hn] at HLD HBX HBY HK1 HZ1 b3 ⊢
  clear hsc l3 hih hbx hby hk1 hz1 hcb hco hn
  go_enter Try.func37, Try.ntmps37
  go_wp2_with fail
  refine HLD.out.mono ?_
  rintro e w2 ⟨rfl, hle, hk2⟩
  rw [HZ1.out] at hle ⊢
  have HK2 := hid_of (HK1.out.trans hk2)
  have hby2 := (hk2.block (w.heap.size + 1) (by rw [HZ1.out]; omega) (fun f => f)).trans HBY.out
  have b3' := hk2.cell b3 (fun f => f)
  have hgl2 : w.heap.size + 1 + 1 < w2.heap.size := by
    obtain ⟨cur, l0, _⟩ := hle
    exact (Array.getElem?_eq_some_iff.1 l0).1
  have HRD := hid_of (inner_read W calls sb callsV fuel HIH.out w w2 κ rb kb gs rV kV tV eV told s cn cxs (w.heap.size + 1) (w.heap.size + 1 + 1) HSC.out ⟨l1, l2, HL3.out⟩ HK2.out hby2 (by omega) (by omega) hgl2 (by omega) hle HCO.out hn0 hn1 h20 hfu hkl hrl)
  rw [← HNN.out] at HRD
  clear hle hk2 hby2 b3 HLD HBX HBY HK1
  go_wp2_with fail
  refine HRD.out.mono ?_
  rintro e w4 (⟨t, x, hpl, rfl, hlg, hle4, hk4, hrt⟩ | ⟨t, j, flt, older, hp, hj, hpl, rfl, ht⟩)
  · have HPL := hid_of hpl
    have b34 := hk4.cell b3' (fun f => Nat.lt_irrefl _ f.1)
    have hcb4 := HCB.out.kept (hlg.base) (fun _ _ f => f)
    have HBK := hid_of (back_any (w.heap.size + 1 + 1) (.slice cao cxs.length cc) cxs w4 hle4 hcb4 (by have := HCO.out.2; omega))
    have HLG := hid_of hlg
    rw [← HNN.out] at HBK
    clear hpl hlg hle4 hk4 hcb4 HRD b3'
    go_wp2_with fail
    refine HBK.out.mono ?_
    rintro e w5 ⟨rfl, hk5⟩
    have hlg5 := after_back HLG.out hk5 (by omega) HSC.out.gslt
    obtain ⟨κ5, kb5, ex, gR, m, rc, kV5, tV5, eV5, told5, hsc5, hlive5, hkp5, hag5, hg5⟩ := hlg5
    have HPOST : Hid (∀ (eV' : Value) (w6 : World), w6.ownsRow 0 43 1 eV' (t.rets.length + 1) (t.rets.map (Value.int .i64) ++ [.int .i64 x]) → Kept (fun q => eV5.ownBlock = some q) w5 w6 → (eV'.ownBlock = eV5.ownBlock ∨ ∀ q, eV'.ownBlock = some q → w5.heap.size ≤ q) → InnerPost W calls κ w sb callsV rb gs fuel cn cxs s (.returned (.tuple #[])) (w6.setCell ⟨sb, 5, none⟩ eV')) := fun eV' w6 hown hk hat => by
      obtain ⟨q1, q2, q3, q4⟩ := hsc5.ret hlive5 (fun b hb => hsc5.rep.sub b (List.mem_append_left _ hb)) hrt hown hk hat
      exact .inl ⟨t, x, HPL.out, rfl, _, _, _, _, _, _, _, _, _, _, q1, q2, hkp5.step q3 (fun q hq e => by rw [hag5 q hq] at e; omega), fun q hq => by rw [q4 q (Nat.lt_of_lt_of_le hq hkp5.size)]; exact hag5 q hq⟩
    have hrtl : t.rets.length ≤ 400 := by have h1 := hsc5.p4; have h2 := hsc5.el; dsimp only at h1 h2; omega
    have d1 := hsc5.rep.cells.2.2.2.2.2.1
    have hs5 := hsc5.rep.lt
    have HROW : Hid (w5.ownsRow 0 43 1 eV5 t.rets.length (t.rets.map (Value.int .i64))) := hsc5.rep.erow
    have HTS : Hid (∀ w6 : World, Kept (fun q => eV5.ownBlock = some q) w5 w6 → w6.cell? ⟨sb, 5, none⟩ = some eV5 ∧ w6.frozen? ⟨sb, 5, none⟩ = false) := fun w6 hk6 => by
      have h5 := (hk6.block sb hs5 (fun e => by have := hsc5.rep.c5 sb e; rw [hsc5.rep.c1] at this; omega)).trans hsc5.rep.blk
      exact ⟨by rw [cell_block _ _ _ _ _ _ h5]; rfl, frozen_block _ _ _ _ _ h5⟩
    clear hsc5 hlive5 hkp5 hag5 hg5 hk5 HLG HPL HBK b34
    go_wp2_with (at_builtin; refine wpList_append_own_at _ rfl (.tmp 31) (.tmp 33) 36 rfl 0 43 i43 (.int .i64 0) 1 8 Try.underlying36 hi43 z430 z431 z432 rfl (by decide) eV5 t.rets.length (t.rets.map (Value.int .i64)) rfl (by exact HROW.out.alloc _) ⟨w5.heap.size, 0, none⟩ 1 1 [.int .i64 x] rfl rfl (by intro j u hj; simpa using cell_one_new w5 _ 43 j u hj) (by intro u hu; simp at hu; subst hu; rfl) (by unfold maxLen; omega) (by omega) (Nat.zero_le _) ?_)
    intro eV' w6 hown' hgrow hnil hat
    have hk6 := kept_app (w3 := w5) hgrow ((Kept.refl _ w5).alloc _)
    obtain ⟨k1, k2⟩ := HTS.out w6 hk6
    have HR6 := hid_of (HPOST.out eV' w6 hown' hk6 (hat_of1 hat))
    obtain ⟨tao, tcap, rfl⟩ := ownsRow_shape hown'
    clear hown' hgrow hnil hat hk6
    go_wp2
    go_end0
    exact HR6.out
  · exact ⟨rfl, .inr ⟨t, j, flt, older, hp, hj, hpl, rfl, ht⟩⟩
end Go.Proofs.Ytffabihenhejfaa

namespace Go.Proofs.Ytffabihenhejfaa
open Go.RowKit
set_option linter.unusedVariables false

section
variable {w : World} {κ : Nat → Nat} {sb : Nat} {callsV : Value} {rb kb gs : List Nat} {rV kV tV eV : Value} {told : List ItV} {s : PS}

/-- Behind the first append, and the field laid. -/
theorem Rep.half (h : Rep w κ sb callsV rb kb gs rV kV tV eV told s) {w5 : World} {rV' : Value} {r : Nat} (hown : w5.ownsRow 0 56 1 rV' (rb.length + 1) (rb.map ptrV ++ [ptrV r])) (hk : Kept (fun q => rV.ownBlock = some q) w w5) (hat : rV'.ownBlock = rV.ownBlock ∨ ∀ q, rV'.ownBlock = some q → w.heap.size ≤ q) :
    (w5.setCell ⟨sb, 2, none⟩ rV').heap[sb]? = some (.cells #[callsV, .int .i64 (s.pos : Int), rV', kV, tV, eV, .bool false] 38 (0, 0)) ∧ (w5.setCell ⟨sb, 2, none⟩ rV').ownsRow 0 56 1 rV' (rb.length + 1) (rb.map ptrV ++ [ptrV r]) ∧ (w5.setCell ⟨sb, 2, none⟩ rV').ownsRow 0 56 1 kV kb.length (kb.map ptrV) ∧ (w5.setCell ⟨sb, 2, none⟩ rV').ownsRow 0 54 3 tV told.length (told.flatMap ItV.cells) ∧ (w5.setCell ⟨sb, 2, none⟩ rV').ownsRow 0 43 1 eV s.rets.length (s.rets.map (Value.int .i64)) ∧
    (∀ i, i < told.length → IsB (w5.setCell ⟨sb, 2, none⟩ rV') (told.getD i ItV.default).bv (told.getD i ItV.default).xs) ∧ Kept (fun q => κ q = 1 ∨ κ q = 2) w (w5.setCell ⟨sb, 2, none⟩ rV') ∧ (∀ q, q < w.heap.size → named κ rV' 2 q = κ q) := by
  have hna := named_old (w := w) h.c2 hat
  obtain ⟨_, o2, o3, o4, o5, o6⟩ := h.others h.c2 hk (by decide) (by decide)
  have hs := hk.size
  have hlt := h.lt
  have hks := kept_set w5 sb 2 rV'
  have hne := fun {c : Nat} {v : Value} => h.base 1 (.bool false) (c := c) (v := v)
  refine ⟨by rw [set_block _ _ _ _ _ _ o5]; rfl, ?_, hks.ownsRow (o2 (by decide)) (hne h.c3 (by decide)), hks.ownsRow (o3 (by decide)) (hne h.c4 (by decide)), hks.ownsRow (o4 (by decide)) (hne h.c5 (by decide)), fun i hi => ?_, ?_, hna⟩
  · refine hks.ownsRow hown (fun q hq e => ?_)
    subst e
    rcases hat with e' | e'
    · rw [e'] at hq; have := h.c2 q hq; rw [h.c1] at this; omega
    · have := e' q hq; omega
  · exact (o6 i hi).kept hks (fun q hq e => by subst e; have := (h.c8 i hi q hq).1; rw [h.c1] at this; omega)
  · exact (hk.mono (fun q hq e => .inr (h.c2 q e))).step hks (fun q hq e => by subst e; exact .inl h.c1)

theorem Rep.push2 (h : Rep w κ sb callsV rb kb gs rV kV tV eV told s) {w5 w6 w7 : World} {rV' kV' : Value} {r : Nat} (hr : κ r = 6 ∧ r < w.heap.size) (hrn : r ∉ kb) (hown : w5.ownsRow 0 56 1 rV' (rb.length + 1) (rb.map ptrV ++ [ptrV r])) (hk : Kept (fun q => rV.ownBlock = some q) w w5) (hat : rV'.ownBlock = rV.ownBlock ∨ ∀ q, rV'.ownBlock = some q → w.heap.size ≤ q) (hw6 : w6 = w5.setCell ⟨sb, 2, none⟩ rV')
    (hown2 : w7.ownsRow 0 56 1 kV' (kb.length + 1) (kb.map ptrV ++ [ptrV r])) (hk2 : Kept (fun q => kV.ownBlock = some q) w6 w7) (hat2 : kV'.ownBlock = kV.ownBlock ∨ ∀ q, kV'.ownBlock = some q → w6.heap.size ≤ q) :
    Rep (w7.setCell ⟨sb, 3, none⟩ kV') (named (named κ rV' 2) kV' 3) sb callsV (rb ++ [r]) (kb ++ [r]) gs rV' kV' tV eV told { s with many := s.many + 1 } ∧ Kept (fun q => κ q = 1 ∨ κ q = 2 ∨ κ q = 3) w (w7.setCell ⟨sb, 3, none⟩ kV') ∧ (∀ q, q < w.heap.size → named (named κ rV' 2) kV' 3 q = κ q) := by
  obtain ⟨f1, f2, f3, f4, f5, f6, f7, f8⟩ := h.half hown hk hat
  rw [← hw6] at f1 f2 f3 f4 f5 f6 f7
  clear hown hk hw6
  have n2 : ∀ q, rV'.ownBlock = some q → named κ rV' 2 q = 2 := named_new
  have hs6 := f7.size
  have hs7 := hk2.size
  have hsb6 : sb < w6.heap.size := (Array.getElem?_eq_some_iff.1 f1).1
  have hc3 : ∀ q, kV.ownBlock = some q → named κ rV' 2 q = 3 := fun q hq => by rw [f8 q (h.krow.lt q hq).2]; exact h.c3 q hq
  have hc1 : named κ rV' 2 sb = 1 := by rw [f8 sb h.lt]; exact h.c1
  have hnb := named_old (w := w6) hc3 hat2
  have hks := kept_set w7 sb 3 kV'
  have hsize : (w7.setCell ⟨sb, 3, none⟩ kV').heap.size = w7.heap.size := by simp
  have ksb : kV.ownBlock ≠ some sb := fun e => by have := h.c3 sb e; rw [h.c1] at this; omega
  have hb7 := (hk2.block sb hsb6 ksb).trans f1
  have hall : ∀ q, q < w.heap.size → named (named κ rV' 2) kV' 3 q = κ q := fun q hq => by rw [hnb q (by omega)]; exact f8 q hq
  have row : ∀ {e z : Nat} {v : Value} {n : Nat} {l : List Value} (c : Nat), w6.ownsRow 0 e z v n l → (∀ q, v.ownBlock = some q → named κ rV' 2 q = c) → c ≠ 3 → c ≠ 1 → (w7.setCell ⟨sb, 3, none⟩ kV').ownsRow 0 e z v n l ∧ ∀ q, v.ownBlock = some q → named (named κ rV' 2) kV' 3 q = c := fun {e z v n l} c ho hc h3 h1 =>
    ⟨hks.ownsRow (hk2.ownsRow ho (fun q hq e => by have := hc q hq; rw [hc3 q e] at this; omega)) (fun q hq e => by subst e; have := hc q hq; rw [hc1] at this; omega), fun q hq => by rw [hnb q (ho.lt q hq).2]; exact hc q hq⟩
  obtain ⟨a1, a2⟩ := row 2 f2 n2 (by decide) (by decide)
  obtain ⟨b1, b2⟩ := row 4 f4 (fun q hq => by rw [f8 q (h.trow.lt q hq).2]; exact h.c4 q hq) (by decide) (by decide)
  obtain ⟨d1, d2⟩ := row 5 f5 (fun q hq => by rw [f8 q (h.erow.lt q hq).2]; exact h.c5 q hq) (by decide) (by decide)
  refine ⟨⟨by rw [set_block _ _ _ _ _ _ hb7]; rfl, ?_, ?_, b1, d1, by rw [hall sb h.lt]; exact h.c1, a2, named_new, b2, d2, fun b hb => ?_, fun g hg => ⟨by rw [hall g (h.c7 g hg).2]; exact (h.c7 g hg).1, by have := (h.c7 g hg).2; omega⟩, ?_, ?_, fun b hb => ?_, by rw [List.length_append, h.klen]; rfl, h.tmap, fun i hi => ?_, fun i hi q hq => ?_⟩, ?_, hall⟩
  · rw [List.length_append, List.map_append]
    simpa using a1
  · refine hks.ownsRow ?_ (fun q hq e => ?_)
    · rw [List.length_append, List.map_append]
      simpa using hown2
    · subst e
      rcases hat2 with e' | e'
      · rw [e'] at hq; exact ksb hq
      · have := e' q hq; omega
  · rcases List.mem_append.1 hb with h' | h'
    · exact ⟨by rw [hall b (h.c6 b h').2]; exact (h.c6 b h').1, by have := (h.c6 b h').2; omega⟩
    · rw [List.mem_singleton.1 h']
      exact ⟨by rw [hall r hr.2]; exact hr.1, by have := hr.2; omega⟩
  · rw [List.nodup_append]
    exact ⟨h.nk, by simp, fun a ha b hb e => by rw [List.mem_singleton] at hb; subst hb; subst e; exact hrn ha⟩
  · rw [List.nodup_append]
    exact ⟨h.nr, by simp, fun a ha b hb e => by rw [List.mem_singleton] at hb; subst hb; subst e; exact hrn (h.sub a ha)⟩
  · rcases List.mem_append.1 hb with h' | h'
    · exact List.mem_append_left _ (h.sub b h')
    · exact List.mem_append_right _ h'
  · exact ((f6 i hi).kept hk2 (fun q hq e => by have := (h.c8 i hi q hq).1; rw [h.c3 q e] at this; omega)).kept hks (fun q hq e => by subst e; have := (h.c8 i hi q hq).1; rw [h.c1] at this; omega)
  · exact ⟨by rw [hall q (h.c8 i hi q hq).2]; exact (h.c8 i hi q hq).1, by have := (h.c8 i hi q hq).2; omega⟩
  · refine ((f7.mono (fun q hq e => ?_)).step hk2 (fun q hq e => .inr (.inr (h.c3 q e)))).step hks (fun q hq e => by subst e; exact .inl h.c1)
    rcases e with e | e
    · exact .inl e
    · exact .inr (.inl e)

/-- What holds at the head of (*f).run's loop. -/
theorem Sc.push {W w5 w6 w7 : World} {rV' kV' : Value} {r g : Nat} {v : Value} {bs : List Int} {lv : List Nat} (h : Sc W w κ sb callsV rb kb gs rV kV tV eV told s rb) (hl : Live w rb gs s.rs) (hr : κ r = 6 ∧ r < w.heap.size) (hrn : r ∉ kb) (hrd : Rd w r v true 0) (hg : κ g = 7 ∧ g < w.heap.size) (hir : IsR w g v bs) (hbo : BytesOk bs) (hkl : kb.length ≤ s.pos) (hown : w5.ownsRow 0 56 1 rV' (rb.length + 1) (rb.map ptrV ++ [ptrV r])) (hk : Kept (fun q => rV.ownBlock = some q) w w5) (hat : rV'.ownBlock = rV.ownBlock ∨ ∀ q, rV'.ownBlock = some q → w.heap.size ≤ q) (hw6 : w6 = w5.setCell ⟨sb, 2, none⟩ rV')
    (hown2 : w7.ownsRow 0 56 1 kV' (kb.length + 1) (kb.map ptrV ++ [ptrV r])) (hk2 : Kept (fun q => kV.ownBlock = some q) w6 w7) (hat2 : kV'.ownBlock = kV.ownBlock ∨ ∀ q, kV'.ownBlock = some q → w6.heap.size ≤ q) :
    Lv W κ w sb callsV (rb ++ [r]) (gs ++ [g]) { s with rs := s.rs ++ [bs], many := s.many + 1 } (w7.setCell ⟨sb, 3, none⟩ kV') := by
  obtain ⟨r1, r2, r3⟩ := h.rep.push2 hr hrn hown hk hat hw6 hown2 hk2 hat2
  obtain ⟨l1, l2, l3⟩ := hl
  have hs := r2.size
  have hmem : ∀ i, i < rb.length → rb.getD i 0 ∈ rb := fun i hi => by rw [List.getD, List.getElem?_eq_getElem hi]; exact List.getElem_mem hi
  have gmem : ∀ i, i < gs.length → gs.getD i 0 ∈ gs := fun i hi => by rw [List.getD, List.getElem?_eq_getElem hi]; exact List.getElem_mem hi
  refine ⟨_, _, _, _, _, _, _, ⟨(r1.lent (gs ++ [g]) (fun q hq => ?_)).setrs (s.rs ++ [bs]), h.base.step r2 (fun q hq e => by have := h.b0 q hq; omega), fun q hq => by rw [r3 q (Nat.lt_of_lt_of_le hq h.base.size)]; exact h.b0 q hq, fun b hb hn => ?_, h.tl, h.el, ?_, h.p4, fun i hi => ?_⟩, ⟨by dsimp only; simp [l1], by simp [l2], fun i hi => ?_⟩, r2.mono (fun q hq e => by omega), r3⟩
  · rcases List.mem_append.1 hq with h' | h'
    · exact ⟨by rw [r3 q (h.rep.c7 q h').2]; exact (h.rep.c7 q h').1, by have := (h.rep.c7 q h').2; omega⟩
    · rw [List.mem_singleton.1 h']
      exact ⟨by rw [r3 g hg.2]; exact hg.1, by have := hg.2; omega⟩
  · have hb' : b ∈ kb := by
      rcases List.mem_append.1 hb with h' | h'
      · exact h'
      · exact absurd (List.mem_append_right _ h') hn
    exact (h.dead b hb' (fun h' => hn (List.mem_append_left _ h'))).kept r2 (fun e => by have := (h.rep.c6 b hb').1; omega)
  · dsimp only
    rw [List.length_append, List.length_singleton]
    omega
  · dsimp only at hi ⊢
    rw [List.length_append, List.length_singleton] at hi
    by_cases e : i < s.rs.length
    · rw [List.getD, List.getElem?_append_left e]
      exact h.bo i e
    · rw [show i = s.rs.length by omega, List.getD, List.getElem?_append_right (Nat.le_refl _), Nat.sub_self]
      exact hbo
  · rw [List.length_append, List.length_singleton] at hi
    dsimp only
    by_cases e : i < rb.length
    · obtain ⟨u, u1, u2⟩ := l3 i e
      rw [getD_front rb r i e, getD_front gs g i (by omega), show (s.rs ++ [bs]).getD i [] = s.rs.getD i [] from by rw [List.getD, List.getElem?_append_left (by omega)]; rfl]
      have e1 := (h.rep.c6 _ (h.rep.sub _ (hmem i e))).1
      have e2 := (h.rep.c7 _ (gmem i (by omega))).1
      exact ⟨u, u1.kept r2 (by omega), u2.kept r2 (by omega)⟩
    · have hi' : i = rb.length := by omega
      subst hi'
      rw [getD_last, show (gs ++ [g]).getD rb.length 0 = g from by rw [← l2]; exact getD_last gs g, show (s.rs ++ [bs]).getD rb.length [] = bs from by rw [← l1]; simp [List.getD]]
      exact ⟨v, hrd.kept r2 (by omega), hir.kept r2 (by omega)⟩
end
end Go.Proofs.Ytffabihenhejfaa

namespace Go.Proofs.Ytffabihenhejfaa
open Go.RowKit
set_option linter.unusedVariables false

theorem play_stop (calls : List CV) (f : Nat) (n : Int) (s : PS) (h : ¬ (0 < n ∧ s.pos < calls.length ∧ s.pos < 400)) : play calls f n s = (s, none) := by
  cases f with
  | zero => rfl
  | succ f => unfold play; rw [if_neg h]

section
variable {calls : List CV} {f : Nat} {n : Int} {s : PS}

theorem play_call (h : 0 < n ∧ s.pos < calls.length ∧ s.pos < 400) (hk : ¬ (calls.getD s.pos CV.default).k = 10) {t : PS} (hc : callP (calls.getD s.pos CV.default) { s with pos := s.pos + 1 } = (t, none)) : play calls (f + 1) n s = play calls f (n - 1) t := by
  rw [play, if_pos h, if_neg hk, hc]
theorem play_fault (h : 0 < n ∧ s.pos < calls.length ∧ s.pos < 400) (hk : ¬ (calls.getD s.pos CV.default).k = 10) {t : PS} {jf : Nat × Int} (hc : callP (calls.getD s.pos CV.default) { s with pos := s.pos + 1 } = (t, some jf)) : play calls (f + 1) n s = (t, some jf) := by
  rw [play, if_pos h, if_neg hk, hc]
theorem play_deep (h : 0 < n ∧ s.pos < calls.length ∧ s.pos < 400) (hk : (calls.getD s.pos CV.default).k = 10) (h20 : ¬ s.rs.length < 20) : play calls (f + 1) n s = play calls f (n - 1) { s with pos := s.pos + 1 } := by
  rw [play, if_pos h, if_pos hk, if_neg h20]
theorem play_in (h : 0 < n ∧ s.pos < calls.length ∧ s.pos < 400) (hk : (calls.getD s.pos CV.default).k = 10) (h20 : s.rs.length < 20) {t : PS} (hp : play calls f (calls.getD s.pos CV.default).n { s with pos := s.pos + 1, rs := s.rs ++ [(calls.getD s.pos CV.default).xs], many := s.many + 1 } = (t, none)) : play calls (f + 1) n s = play calls f (n - 1) { t with rs := t.rs.take s.rs.length, rets := t.rets ++ [tailOf (t.rs.getD s.rs.length []).length 0] } := by
  rw [play, if_pos h, if_pos hk, if_pos h20, hp]
theorem play_caught (h : 0 < n ∧ s.pos < calls.length ∧ s.pos < 400) (hk : (calls.getD s.pos CV.default).k = 10) (h20 : s.rs.length < 20) {t : PS} {flt : Int} (hp : play calls f (calls.getD s.pos CV.default).n { s with pos := s.pos + 1, rs := s.rs ++ [(calls.getD s.pos CV.default).xs], many := s.many + 1 } = (t, some (s.rs.length, flt))) : play calls (f + 1) n s = play calls f (n - 1) { t with rs := t.rs.take s.rs.length, rets := t.rets ++ [flt] } := by
  rw [play, if_pos h, if_pos hk, if_pos h20, hp]
  dsimp only
  rw [if_pos rfl]
theorem play_pass (h : 0 < n ∧ s.pos < calls.length ∧ s.pos < 400) (hk : (calls.getD s.pos CV.default).k = 10) (h20 : s.rs.length < 20) {t : PS} {j : Nat} {flt : Int} (hj : j ≠ s.rs.length) (hp : play calls f (calls.getD s.pos CV.default).n { s with pos := s.pos + 1, rs := s.rs ++ [(calls.getD s.pos CV.default).xs], many := s.many + 1 } = (t, some (j, flt))) : play calls (f + 1) n s = (t, some (j, flt)) := by
  rw [play, if_pos h, if_pos hk, if_pos h20, hp]
  dsimp only
  rw [if_neg hj]
end

theorem callP_told (c : CV) (s : PS) : (callP c s).1.told.length ≤ s.told.length + 1 := by
  unfold callP
  by_cases h : 1 ≤ c.k ∧ c.k ≤ 9
  · rw [if_pos h]
    cases oneD c.k c.n (s.rs.getD (s.rs.length - 1 - (c.o % (s.rs.length : Int)).toNat) []) with
    | error flt => exact Nat.le_succ _
    | ok p => simp
  · rw [if_neg h]; exact Nat.le_succ _

/-- A call has been taken: the rows have room for one more. -/
def LvN (W : World) (κ0 : Nat → Nat) (w0 : World) (sb : Nat) (callsV : Value) (rb gs : List Nat) (s : PS) (w : World) : Prop :=
  ∃ κ kb rV kV tV eV told, Sc W w κ sb callsV rb kb gs rV kV tV eV told s rb ∧ Live w rb gs s.rs ∧ Kept (fun q => 1 ≤ κ0 q ∧ κ0 q ≤ 6) w0 w ∧ (∀ q, q < w0.heap.size → κ q = κ0 q) ∧ told.length < s.pos ∧ s.rets.length < s.pos ∧ kb.length ≤ s.pos

section
variable {W w0 w w1 : World} {κ0 : Nat → Nat} {sb : Nat} {callsV : Value} {rb gs : List Nat} {s : PS}

theorem Lv.cells (h : Lv W κ0 w0 sb callsV rb gs s w) : w.cell? ⟨sb, 0, none⟩ = some callsV ∧ w.cell? ⟨sb, 1, none⟩ = some (.int .i64 (s.pos : Int)) ∧ w.frozen? ⟨sb, 1, none⟩ = false ∧ sb < w.heap.size ∧ s.pos ≤ 400 ∧ s.rs.length = rb.length ∧ Kept (fun _ => False) W w ∧ Kept (fun q => 1 ≤ κ0 q ∧ κ0 q ≤ 6) w0 w := by
  obtain ⟨κ, kb, rV, kV, tV, eV, told, h1, h2, h3, h4⟩ := h
  obtain ⟨c0, c1, _⟩ := h1.rep.cells
  exact ⟨c0, c1, h1.rep.frozen 1, h1.rep.lt, h1.p4, h2.1, h1.base, h3⟩

theorem Lv.new (h : Lv W κ0 w0 sb callsV rb gs s w) (hk : Kept (fun _ => False) w w1) : Lv W κ0 w0 sb callsV rb gs s w1 := by
  obtain ⟨κ, kb, rV, kV, tV, eV, told, h1, h2, h3, h4⟩ := h
  exact ⟨κ, kb, rV, kV, tV, eV, told, h1.new hk (fun _ _ => rfl), h2.new hk, h3.step hk (fun _ _ f => f.elim), h4⟩

/-- A call is taken. -/
theorem Lv.next (h : Lv W κ0 w0 sb callsV rb gs s w) (hp : s.pos < 400) : LvN W κ0 w0 sb callsV rb gs { s with pos := s.pos + 1 } (w.setCell ⟨sb, 1, none⟩ (.int .i64 ((s.pos + 1 : Nat) : Int))) := by
  obtain ⟨κ, kb, rV, kV, tV, eV, told, h1, ⟨l1, l2, l3⟩, h3, h4⟩ := h
  obtain ⟨r1, r2⟩ := h1.rep.next
  have hmem : ∀ i, i < rb.length → rb.getD i 0 ∈ rb := fun i hi => by rw [List.getD, List.getElem?_eq_getElem hi]; exact List.getElem_mem hi
  have e1 := h1.tl
  have e2 := h1.el
  have e3 := h1.kl
  refine ⟨κ, kb, rV, kV, tV, eV, told, ⟨r1, h1.base.step r2 (fun q hq e => by have := h1.b0 q hq; omega), h1.b0, fun b hb hn => (h1.dead b hb hn).kept r2 (fun e => by have := (h1.rep.c6 b hb).1; omega), by dsimp only; omega, by dsimp only; omega, by dsimp only; omega, by dsimp only; omega, h1.bo⟩, ⟨l1, l2, fun i hi => ?_⟩, h3.step r2 (fun q hq e => by rw [h4 q hq] at e; omega), h4, by dsimp only; omega, by dsimp only; omega, by dsimp only; omega⟩
  obtain ⟨u, u1, u2⟩ := l3 i hi
  have e1 := (h1.rep.c6 _ (h1.rep.sub _ (hmem i hi))).1
  have e2 := (h1.rep.c7 (gs.getD i 0) (by rw [List.getD, List.getElem?_eq_getElem (show i < gs.length by omega)]; exact List.getElem_mem _)).1
  exact ⟨u, u1.kept r2 (by omega), u2.kept r2 (by omega)⟩

theorem LvN.lv (h : LvN W κ0 w0 sb callsV rb gs s w) : Lv W κ0 w0 sb callsV rb gs s w := by
  obtain ⟨κ, kb, rV, kV, tV, eV, told, h1, h2, h3, h4, _⟩ := h
  exact ⟨κ, kb, rV, kV, tV, eV, told, h1, h2, h3, h4⟩

/-- One call of a Reader. -/
theorem LvN.call (h : LvN W κ0 w0 sb callsV rb gs s w) (hD : 0 < rb.length) (hD20 : rb.length ≤ 20) {c : CV} {cao : Option Addr} {cl cc : Nat} (hb : c.bv = .slice cao cl cc) (hn0 : -9223372036854775808 ≤ c.n) (hn1 : c.n ≤ 9223372036854775807) (ho0 : -9223372036854775808 ≤ c.o) (ho1 : c.o ≤ 9223372036854775807) :
    Calls Try.prog 38 #[.pointer (some ⟨sb, 0, none⟩), .agg #[.int .i64 c.k, .int .i64 c.n, .int .i64 c.o, .slice cao cl cc], .int .i64 (rb.length : Int)] w fun e w' =>
      (∃ t, callP c s = (t, none) ∧ e = .returned (.tuple #[]) ∧ Lv W κ0 w0 sb callsV rb gs t w') ∨
      ∃ j flt, callP c s = (s, some (j, flt)) ∧ j < rb.length ∧ e = .panicked [{ v := thrownV (rb.getD j 0), recovered := false }] ∧ Tv W κ0 w0 sb callsV rb gs s j flt w' := by
  obtain ⟨κ, kb, rV, kV, tV, eV, told, h1, hl, h3, h4, ht, he, hkb⟩ := h
  have hl' := hl
  obtain ⟨l1, l2, l3⟩ := hl'
  have hp4 := h1.p4
  have hmem : ∀ i, i < rb.length → rb.getD i 0 ∈ rb := fun i hi => by rw [List.getD, List.getElem?_eq_getElem hi]; exact List.getElem_mem hi
  have gmem : ∀ i, i < gs.length → gs.getD i 0 ∈ gs := fun i hi => by rw [List.getD, List.getElem?_eq_getElem hi]; exact List.getElem_mem hi
  have hk6 : ∀ b, b ∈ rb → κ b = 6 := fun b hb => (h1.rep.c6 b (h1.rep.sub b hb)).1
  have hcv : c = ⟨c.k, c.n, c.o, .slice cao cl cc, c.xs⟩ := by rw [← hb]
  have hwj : whichR c.o s.rs.length < s.rs.length := by unfold whichR; omega
  have hq := scall_any w κ sb callsV rb kb gs rV kV tV eV told s c.k c.n c.o cao cl cc c.xs h1.rep hl (fun i hi => h1.bo i (by omega)) hD hD20 (by omega) hn0 hn1 ho0 ho1
  rw [← hcv] at hq
  refine hq.mono ?_
  rintro e w' (⟨t, hc, rfl, κ', tV', told', r1, r2, r3, r4⟩ | ⟨j, flt, hc, hj, rfl, r1, r2⟩)
  · refine .inl ⟨t, hc, rfl, κ', kb, rV, kV, tV', eV, told', ⟨r1, h1.base.step r3 (fun q hq e => ?_), fun q hq => by rw [r4 q (Nat.lt_of_lt_of_le hq h1.base.size)]; exact h1.b0 q hq, fun b hb hn => (h1.dead b hb hn).kept r3 (fun e => ?_), ?_, ?_, ?_, ?_, callP_bytes h1.bo hwj hc⟩, r2, h3.step r3 (fun q hq e => ?_), fun q hq => by rw [r4 q (Nat.lt_of_lt_of_le hq h3.size)]; exact h4 q hq⟩
    · have := h1.b0 q hq
      rcases e with e | e | e
      · omega
      · omega
      · have := hk6 q e; omega
    · have := (h1.rep.c6 b hb).1
      rcases e with e | e | e
      · omega
      · omega
      · exact hn e
    · have ep := (callP_pos c s).1
      rw [hc] at ep
      have e1 : told'.length = t.told.length := by rw [← r1.tmap, List.length_map]
      have e2 : told.length = s.told.length := by rw [← h1.rep.tmap, List.length_map]
      have e3 := callP_told c s
      rw [hc] at e3
      dsimp only at ep e3
      omega
    · have ep := (callP_pos c s).1
      have er := callP_rets c s
      rw [hc] at ep er
      dsimp only at ep er
      rw [er]
      omega
    · have ep := (callP_pos c s).1
      rw [hc] at ep
      dsimp only at ep
      omega
    · have ep := (callP_pos c s).1
      rw [hc] at ep
      dsimp only at ep
      omega
    · rw [← h4 q hq]
      rcases e with e | e | e
      · omega
      · omega
      · have := hk6 q e; omega
  · have hj6 := hk6 _ (hmem j hj)
    refine .inr ⟨j, flt, hc, hj, rfl, κ, kb, [], rV, kV, tV, eV, told, ⟨by rw [List.append_nil]; exact h1.rep.kept r2 (fun q hq e => .inl (by rw [e]; exact hj6)) (fun _ _ => rfl), h1.base.step r2 (fun q hq e => by have := h1.b0 q hq; rw [e] at this; omega), h1.b0, fun b hb hn => (h1.dead b hb hn).kept r2 (fun e => hn (by rw [e]; exact hmem j hj)), h1.tl, h1.el, h1.kl, h1.p4, h1.bo⟩, by omega, l2, fun i hi => ?_, r1, fun i hi hi2 => ?_, h3.step r2 (fun q hq e => by rw [← h4 q hq, e]; omega), h4⟩
    · obtain ⟨u, u1, u2⟩ := l3 i (by omega)
      exact ⟨u, u1.kept r2 (getD_ne h1.rep.nr (by omega) hj (by omega)), u2.kept r2 (fun e => by have := (h1.rep.c7 _ (gmem i (by omega))).1; rw [e] at this; omega)⟩
    · obtain ⟨u, u1, u2⟩ := l3 i hi2
      obtain ⟨ao, c', hv⟩ := u2.shape
      rw [hv] at u1
      exact ⟨_, _, _, _, _, u1.kept r2 (getD_ne h1.rep.nr hi2 hj (by omega))⟩

/-- The stack is cut behind an inner Read. -/
theorem LvX.cut (h : LvX W κ0 w0 sb callsV rb gs s w) : ∃ gR n rc, w.cell? ⟨sb, 2, none⟩ = some (.slice (some ⟨gR, 0, none⟩) n rc) ∧ rb.length ≤ rc ∧ w.frozen? ⟨sb, 2, none⟩ = false ∧ Lv W κ0 w0 sb callsV rb gs s (w.setCell ⟨sb, 2, none⟩ (.slice (some ⟨gR, 0, none⟩) rb.length rc)) := by
  obtain ⟨κ, kb, ex, gR, n, rc, kV, tV, eV, told, h1, ⟨l1, l2, l3⟩, h3, h4⟩ := h
  have hc := h1.rep.cells.2.2.1
  obtain ⟨r1, r2⟩ := h1.rep.cutR
  have hmem : ∀ i, i < rb.length → rb.getD i 0 ∈ rb := fun i hi => by rw [List.getD, List.getElem?_eq_getElem hi]; exact List.getElem_mem hi
  have hrc : rb.length ≤ rc := by
    rcases h1.rep.rrow.2 with ⟨e, _⟩ | ⟨g, cap, cur, e, hb, hg, hnc, hcm, hcs, ht⟩
    · cases e
    · cases e
      rw [List.length_append] at hnc
      omega
  refine ⟨gR, n, rc, hc, hrc, h1.rep.frozen 2, κ, kb, _, kV, tV, eV, told, ⟨r1, h1.base.step r2 (fun q hq e => by have := h1.b0 q hq; omega), h1.b0, fun b hb hn => (h1.dead b hb hn).kept r2 (fun e => by have := (h1.rep.c6 b hb).1; omega), h1.tl, h1.el, h1.kl, h1.p4, h1.bo⟩, ⟨l1, l2, fun i hi => ?_⟩, h3.step r2 (fun q hq e => by rw [h4 q hq] at e; omega), h4⟩
  obtain ⟨u, u1, u2⟩ := l3 i hi
  have e1 := (h1.rep.c6 _ (h1.rep.sub _ (List.mem_append_left _ (hmem i hi)))).1
  have e2 := (h1.rep.c7 (gs.getD i 0) (by rw [List.getD, List.getElem?_eq_getElem (show i < gs.length by omega)]; exact List.getElem_mem _)).1
  exact ⟨u, u1.kept r2 (by omega), u2.kept r2 (by omega)⟩

theorem LvX.up {κ : Nat → Nat} {w2 : World} (h : LvX W κ w sb callsV rb gs s w2) (hk : Kept (fun q => 1 ≤ κ0 q ∧ κ0 q ≤ 6) w0 w) (ha : ∀ q, q < w0.heap.size → κ q = κ0 q) : LvX W κ0 w0 sb callsV rb gs s w2 := by
  obtain ⟨κ', kb, ex, gR, n, rc, kV, tV, eV, told, h1, h2, h3, h4⟩ := h
  exact ⟨κ', kb, ex, gR, n, rc, kV, tV, eV, told, h1, h2, hk.step h3 (fun q hq e => by rw [ha q hq] at e; exact e), fun q hq => by rw [h4 q (Nat.lt_of_lt_of_le hq hk.size)]; exact ha q hq⟩

theorem Tv.up {κ : Nat → Nat} {w2 : World} {j : Nat} {flt : Int} (h : Tv W κ w sb callsV rb gs s j flt w2) (hk : Kept (fun q => 1 ≤ κ0 q ∧ κ0 q ≤ 6) w0 w) (ha : ∀ q, q < w0.heap.size → κ q = κ0 q) : Tv W κ0 w0 sb callsV rb gs s j flt w2 := by
  obtain ⟨κ', kb, ex, rV, kV, tV, eV, told, h1, h2, h2', h5, h6, h7, h3, h4⟩ := h
  exact ⟨κ', kb, ex, rV, kV, tV, eV, told, h1, h2, h2', h5, h6, h7, hk.step h3 (fun q hq e => by rw [ha q hq] at e; exact e), fun q hq => by rw [h4 q (Nat.lt_of_lt_of_le hq hk.size)]; exact ha q hq⟩

/-- An inner Read. -/
theorem LvN.inner {calls : List CV} {fuel : Nat} (h : LvN W κ0 w0 sb callsV rb gs s w) (hih : RunC W calls sb callsV fuel) {c : CV} {cao : Option Addr} {cc : Nat} (hb : c.bv = .slice cao c.xs.length cc) (hcb : IsB W c.bv c.xs) (hco : BytesOk c.xs) (hn0 : -9223372036854775808 ≤ c.n) (hn1 : c.n ≤ 9223372036854775807) (h20 : rb.length < 20) (hfu : 400 < s.pos + fuel) :
    Calls Try.prog 37 #[.pointer (some ⟨sb, 0, none⟩), .agg #[.int .i64 c.k, .int .i64 c.n, .int .i64 c.o, .slice cao c.xs.length cc]] w (InnerPost W calls κ0 w0 sb callsV rb gs fuel c.n c.xs s) := by
  obtain ⟨κ, kb, rV, kV, tV, eV, told, h1, hl, h3, h4, ht, he, hkb⟩ := h
  rw [hb] at hcb
  refine (inner_any W calls sb callsV fuel hih w κ rb kb gs rV kV tV eV told s c.k c.n c.o cao cc c.xs h1 hl hcb hco hn0 hn1 h20 hfu hkb he).mono ?_
  rintro e w' (⟨t, x, hp, rfl, hx⟩ | ⟨t, j, flt, older, hp, hj, hpl, rfl, hx⟩)
  · exact .inl ⟨t, x, hp, rfl, hx.up h3 h4⟩
  · exact .inr ⟨t, j, flt, older, hp, hj, hpl, rfl, hx.up h3 h4⟩
end

/-- What holds at the head of the loop. -/
def RunI (W : World) (calls : List CV) (κ : Nat → Nat) (w : World) (sb : Nat) (callsV : Value) (rb gs : List Nat) (fuel : Nat) (N : Int) (s : PS) (k : Nat) (wr : World) : Prop :=
  ∃ f t, play calls fuel N s = play calls f (N - k) t ∧ 400 < t.pos + f ∧ f ≤ fuel ∧ k ≤ t.pos ∧ Lv W κ w sb callsV rb gs t wr

section
variable {W w w' : World} {calls : List CV} {κ : Nat → Nat} {sb : Nat} {callsV : Value} {rb gs : List Nat} {fuel f k : Nat} {N : Int} {s t t' : PS}

theorem RunI.mk2 (hpl : play calls fuel N s = play calls (f + 1) (N - k) t) (hst : play calls (f + 1) (N - k) t = play calls f (N - k - 1) t') (hft : 400 < t.pos + (f + 1)) (hff : f + 1 ≤ fuel) (hkt : k ≤ t.pos) (hp : t.pos + 1 ≤ t'.pos) (hlv : Lv W κ w sb callsV rb gs t' w') : RunI W calls κ w sb callsV rb gs fuel N s (k + 1) w' :=
  ⟨f, t', by rw [hpl, hst, show N - ((k + 1 : Nat) : Int) = N - k - 1 from by omega], by omega, by omega, by omega, hlv⟩

theorem RunI.deep (hpl : play calls fuel N s = play calls (f + 1) (N - k) t) (hc : 0 < N - k ∧ t.pos < calls.length ∧ t.pos < 400) (hft : 400 < t.pos + (f + 1)) (hff : f + 1 ≤ fuel) (hkt : k ≤ t.pos) (hk : (calls.getD t.pos CV.default).k = 10) (h20 : ¬ t.rs.length < 20) (hlv : Lv W κ w sb callsV rb gs { t with pos := t.pos + 1 } w') : RunI W calls κ w sb callsV rb gs fuel N s (k + 1) w' :=
  RunI.mk2 hpl (play_deep hc hk h20) hft hff hkt (Nat.le_refl _) hlv

theorem RunI.call (hpl : play calls fuel N s = play calls (f + 1) (N - k) t) (hc : 0 < N - k ∧ t.pos < calls.length ∧ t.pos < 400) (hft : 400 < t.pos + (f + 1)) (hff : f + 1 ≤ fuel) (hkt : k ≤ t.pos) (hk : ¬ (calls.getD t.pos CV.default).k = 10) (hp : callP (calls.getD t.pos CV.default) { t with pos := t.pos + 1 } = (t', none)) (hlv : Lv W κ w sb callsV rb gs t' w') : RunI W calls κ w sb callsV rb gs fuel N s (k + 1) w' :=
  RunI.mk2 hpl (play_call hc hk hp) hft hff hkt (by have := (callP_pos (calls.getD t.pos CV.default) { t with pos := t.pos + 1 }).1; rw [hp] at this; dsimp only at this; omega) hlv

theorem RunI.inn {x : Int} {D : Nat} (hpl : play calls fuel N s = play calls (f + 1) (N - k) t) (hc : 0 < N - k ∧ t.pos < calls.length ∧ t.pos < 400) (hft : 400 < t.pos + (f + 1)) (hff : f + 1 ≤ fuel) (hkt : k ≤ t.pos) (hk : (calls.getD t.pos CV.default).k = 10) (hD : t.rs.length = D) (h20 : D < 20)
    (hp : play calls f (calls.getD t.pos CV.default).n { t with pos := t.pos + 1, rs := t.rs ++ [(calls.getD t.pos CV.default).xs], many := t.many + 1 } = (t', none) ∧ x = tailOf (t'.rs.getD D []).length 0 ∨ play calls f (calls.getD t.pos CV.default).n { t with pos := t.pos + 1, rs := t.rs ++ [(calls.getD t.pos CV.default).xs], many := t.many + 1 } = (t', some (D, x)))
    (hlv : Lv W κ w sb callsV rb gs { t' with rs := t'.rs.take D, rets := t'.rets ++ [x] } w') : RunI W calls κ w sb callsV rb gs fuel N s (k + 1) w' := by
  subst hD
  have hpos := (play_pos calls f (calls.getD t.pos CV.default).n { t with pos := t.pos + 1, rs := t.rs ++ [(calls.getD t.pos CV.default).xs], many := t.many + 1 }).1
  rcases hp with ⟨hp, rfl⟩ | hp
  · rw [hp] at hpos
    exact RunI.mk2 hpl (play_in hc hk h20 hp) hft hff hkt hpos hlv
  · rw [hp] at hpos
    exact RunI.mk2 hpl (play_caught hc hk h20 hp) hft hff hkt hpos hlv
end

theorem plain_nil : Plain1 [] := by
  unfold Plain1
  simp
end Go.Proofs.Ytffabihenhejfaa

/-
  The reference's side of a script: steps of its read.
-/
import Derived.Test.YtffabihenhejfaaRpa
import Derived.Test.YtffabihenhejfaaRpc
namespace Go.Proofs.Ytffabihenhejfaa
open Go.RowKit
set_option linter.unusedVariables false

section
variable {W w0 w w1 : World} {κ0 : Nat → Nat} {sb : Nat} {callsV : Value} {rb : List Nat} {s : PS}

/-- A new Reader's block. -/
theorem ScP.box {κ : Nat → Nat} {rV tV eV : Value} {told : List ItV} {v : Value} {xs : List Int} (h : ScP W w κ sb callsV rb rV tV eV told s) (hl : LiveP W w rb s.rs) (hsrc : SrcOk W v xs) (hml : s.many ≤ s.pos) :
    (w.alloc (.cells #[v, .int .i64 0, .int .i64 0] 90)).ownsRow 0 88 1 rV rb.length (rb.map ptrV) ∧ (w.alloc (.cells #[v, .int .i64 0, .int .i64 0] 90)).cell? ⟨sb, 2, none⟩ = some rV ∧ sb < (w.alloc (.cells #[v, .int .i64 0, .int .i64 0] 90)).heap.size ∧
    (∀ w5, Kept (fun q => rV.ownBlock = some q) (w.alloc (.cells #[v, .int .i64 0, .int .i64 0] 90)) w5 → (∃ u, w5.cell? ⟨sb, 2, none⟩ = some u) ∧ w5.frozen? ⟨sb, 2, none⟩ = false) ∧
    ∀ (rV' : Value) (w5 w6 : World), w5.ownsRow 0 88 1 rV' (rb.length + 1) (rb.map ptrV ++ [ptrV w.heap.size]) → Kept (fun q => rV.ownBlock = some q) (w.alloc (.cells #[v, .int .i64 0, .int .i64 0] 90)) w5 → (rV'.ownBlock = rV.ownBlock ∨ ∀ q, rV'.ownBlock = some q → (w.alloc (.cells #[v, .int .i64 0, .int .i64 0] 90)).heap.size ≤ q) → w6 = w5.setCell ⟨sb, 2, none⟩ rV' →
      w6.cell? ⟨sb, 5, none⟩ = some (.int .i64 (s.many : Int)) ∧ w6.frozen? ⟨sb, 5, none⟩ = false ∧ sb < w6.heap.size ∧ (w6.setCell ⟨sb, 5, none⟩ (.int .i64 ((s.many : Int) + 1))).cell? ⟨sb, 2, none⟩ = some rV' ∧ LvP W κ w sb callsV (rb ++ [w.heap.size]) { s with rs := s.rs ++ [xs], many := s.many + 1 } (w6.setCell ⟨sb, 5, none⟩ (.int .i64 ((s.many : Int) + 1))) := by
  have hkb : Kept (fun _ => False) w (w.alloc (.cells #[v, .int .i64 0, .int .i64 0] 90)) := (Kept.refl _ _).alloc _
  have hnew := heap_alloc_new w (.cells #[v, .int .i64 0, .int .i64 0] 90)
  have hsz : (w.alloc (.cells #[v, .int .i64 0, .int .i64 0] 90)).heap.size = w.heap.size + 1 := by simp
  generalize w.alloc (.cells #[v, .int .i64 0, .int .i64 0] 90) = wb at *
  have hag : ∀ q, q < w.heap.size → (fun q => if q = w.heap.size then 6 else κ q) q = κ q := fun q hq => by dsimp only; rw [if_neg (by omega)]
  have hrep := h.rep.kept (κ' := fun q => if q = w.heap.size then 6 else κ q) hkb (fun _ _ f => f.elim) hag
  have hb0 : ∀ q, q < W.heap.size → (fun q => if q = w.heap.size then 6 else κ q) q = 0 := fun q hq => by rw [hag q (Nat.lt_of_lt_of_le hq h.base.size)]; exact h.b0 q hq
  have hsc : ScP W wb (fun q => if q = w.heap.size then 6 else κ q) sb callsV rb rV tV eV told s := ⟨hrep, h.base.trans hkb, hb0, h.tl, h.el, h.ml, h.p4⟩
  refine ⟨hrep.rrow, hrep.cells.2.2.1, hrep.lt, fun w5 hk => ?_, fun rV' w5 w6 hown hk hat hw6 => ?_⟩
  · have h5 := (hk.block sb hrep.lt (fun e => by have := hrep.c2 sb e; rw [hrep.c1] at this; omega)).trans hrep.blk
    exact ⟨⟨_, by rw [cell_block _ _ _ _ _ _ h5]; rfl⟩, frozen_block _ _ _ _ _ h5⟩
  · have hrn : w.heap.size ∉ rb := fun hm => by have := (h.rep.c6 _ hm).2; omega
    obtain ⟨p1, p2⟩ := hsc.push (hl.new hkb) (r := w.heap.size) ⟨if_pos rfl, by omega⟩ hrn hnew hsrc hml hown hk hat
    rw [← hw6] at p1 p2
    rw [show ((s.many + 1 : Nat) : Int) = (s.many : Int) + 1 from by omega] at p2
    obtain ⟨c1, _⟩ := p1.count
    rw [show ((s.many + 1 : Nat) : Int) = (s.many : Int) + 1 from by omega] at c1
    exact ⟨p1.cells.2.2.2.2.2, p1.frozen 5, p1.lt, c1.cells.2.2.1, p2.up (hkb.mono (fun _ _ f => f.elim)) hag⟩

/-- One call of a Reader. -/
theorem LvNP.call (h : LvNP W κ0 w0 sb callsV rb s w) (hD : 0 < rb.length) (hD20 : rb.length ≤ 20) {c : CV} {cao : Option Addr} {cl cc : Nat} (hb : c.bv = .slice cao cl cc) (hn0 : -9223372036854775808 ≤ c.n) (hn1 : c.n ≤ 9223372036854775807) (ho0 : -9223372036854775808 ≤ c.o) (ho1 : c.o ≤ 9223372036854775807) :
    Calls Try.prog 39 #[.pointer (some ⟨sb, 0, none⟩), .agg #[.int .i64 c.k, .int .i64 c.n, .int .i64 c.o, .slice cao cl cc], .int .i64 (rb.length : Int)] w fun e w' =>
      e = .returned (.tuple #[]) ∧ ((∃ t, callP c s = (t, none) ∧ LvP W κ0 w0 sb callsV rb t w') ∨ ∃ j flt, callP c s = (s, some (j, flt)) ∧ TvP W κ0 w0 sb callsV rb s j flt w') := by
  obtain ⟨κ, rV, tV, eV, told, h1, hl, h3, h4, ht, he, hkb⟩ := h
  have hp4 := h1.p4
  have hcv : c = ⟨c.k, c.n, c.o, .slice cao cl cc, c.xs⟩ := by rw [← hb]
  have hq := pcall_any W w κ sb callsV rb rV tV eV told s c.k c.n c.o cao cl cc c.xs h1.rep hl h1.base hD hD20 (by omega) hn0 hn1 ho0 ho1
  rw [← hcv] at hq
  exact hq.mono (fun e w' hp => callP_lv h1 hl h3 h4 ht he hkb hp)

/-- An inner Read. -/
theorem LvNP.inner {calls : List CV} {fuel : Nat} (h : LvNP W κ0 w0 sb callsV rb s w) (hih : ReadC W calls sb callsV fuel) {v : Value} {xs : List Int} {n : Int} (hsrc : SrcOk W v xs) (hn0 : -9223372036854775808 ≤ n) (hn1 : n ≤ 9223372036854775807) (h20 : rb.length < 20) (hfu : 400 < s.pos + fuel) :
    Calls Try.prog 17 #[.pointer (some ⟨sb, 0, none⟩), v, .int .i64 n] w (ReadPost W calls κ0 w0 sb callsV rb fuel n { s with rs := s.rs ++ [xs], many := s.many + 1 }) := by
  obtain ⟨κ, rV, tV, eV, told, h1, hl, h3, h4, ht, he, hkb⟩ := h
  refine (hih w κ n v xs rb rV tV eV told s h1 hl hsrc hn0 hn1 h20 hfu hkb).mono ?_
  rintro e w' ⟨r, ⟨t, h5, h6, h7⟩ | ⟨t, flt, h5, h6, h7⟩ | ⟨t, j, flt, h5, hj, h6, h7⟩⟩
  · exact ⟨r, .inl ⟨t, h5, h6, h7.up h3 h4⟩⟩
  · exact ⟨r, .inr (.inl ⟨t, flt, h5, h6, h7.up h3 h4⟩)⟩
  · exact ⟨r, .inr (.inr ⟨t, j, flt, h5, hj, h6, h7.up h3 h4⟩)⟩

/-- What the loop over the Readers looks at. -/
theorem LvP.looks (h : LvP W κ0 w0 sb callsV rb s w) (hD : 0 < rb.length) : ∃ gR rc, w.cell? ⟨sb, 2, none⟩ = some (.slice (some ⟨gR, 0, none⟩) rb.length rc) ∧ sb < w.heap.size ∧ gR < w.heap.size ∧ ∀ i, i < rb.length → w.cell? ⟨gR, i, none⟩ = some (.pointer (some ⟨rb.getD i 0, 0, none⟩)) ∧ w.cell? ⟨rb.getD i 0, 2, none⟩ = some (.int .i64 0) ∧ rb.getD i 0 < w.heap.size := by
  obtain ⟨κ, rV, tV, eV, told, h1, ⟨l1, l3⟩, h3, h4⟩ := h
  obtain ⟨gR, rc, hrV⟩ : ∃ gR rc, rV = .slice (some ⟨gR, 0, none⟩) rb.length rc := by
    rcases World.ownsRow.mk' h1.rep.rrow with ⟨_, h0⟩ | ⟨g, cap, e⟩
    · omega
    · exact ⟨g, cap, e⟩
  subst hrV
  refine ⟨gR, rc, h1.rep.cells.2.2.1, h1.rep.lt, World.block_lt_of_cell? _ _ (ownsRow_atP h1.rep.rrow (g := gR) rfl 0 hD), fun i hi => ⟨ownsRow_atP h1.rep.rrow rfl i hi, ?_⟩⟩
  obtain ⟨v, xs, p, hr, _⟩ := l3 i hi
  exact ⟨hr.cells.2.2.1, hr.cells.2.2.2.2⟩

theorem TvP.looks {j : Nat} {flt : Int} (h : TvP W κ0 w0 sb callsV rb s j flt w) : ∃ gR rc, w.cell? ⟨sb, 2, none⟩ = some (.slice (some ⟨gR, 0, none⟩) rb.length rc) ∧ sb < w.heap.size ∧ gR < w.heap.size ∧ (∀ i, i < j → w.cell? ⟨gR, i, none⟩ = some (.pointer (some ⟨rb.getD i 0, 0, none⟩)) ∧ w.cell? ⟨rb.getD i 0, 2, none⟩ = some (.int .i64 0) ∧ rb.getD i 0 < w.heap.size) ∧ w.cell? ⟨gR, j, none⟩ = some (.pointer (some ⟨rb.getD j 0, 0, none⟩)) ∧ w.cell? ⟨rb.getD j 0, 2, none⟩ = some (.int .i64 flt) ∧ rb.getD j 0 < w.heap.size ∧ flt ≠ 0 ∧ j < rb.length := by
  obtain ⟨κ, rV, tV, eV, told, h1, hle, hj, hf, hlive, ⟨v, q, hrr⟩, h3, h4⟩ := h
  obtain ⟨gR, rc, hrV⟩ : ∃ gR rc, rV = .slice (some ⟨gR, 0, none⟩) rb.length rc := by
    rcases World.ownsRow.mk' h1.rep.rrow with ⟨_, h0⟩ | ⟨g, cap, e⟩
    · omega
    · exact ⟨g, cap, e⟩
  subst hrV
  refine ⟨gR, rc, h1.rep.cells.2.2.1, h1.rep.lt, World.block_lt_of_cell? _ _ (ownsRow_atP h1.rep.rrow (g := gR) rfl j hj), fun i hi => ⟨ownsRow_atP h1.rep.rrow rfl i (by omega), ?_⟩, ownsRow_atP h1.rep.rrow rfl j hj, hrr.cells.2.2.1, hrr.cells.2.2.2.2, hf, hj⟩
  obtain ⟨v, xs, p, hr, _⟩ := hlive i hi
  exact ⟨hr.cells.2.2.1, hr.cells.2.2.2.2⟩

/-- The Reader of this Read. -/
theorem LvP.own {r : Nat} (h : LvP W κ0 w0 sb callsV (rb ++ [r]) s w) : ∃ ao n c p, RR w r (.slice ao n c) p 0 ∧ p ≤ n ∧ n ≤ 140737488351232 ∧ n - p = (s.rs.getD rb.length []).length := by
  obtain ⟨κ, rV, tV, eV, told, h1, ⟨l1, l3⟩, h3, h4⟩ := h
  obtain ⟨v, xs, p, hr, hsrc, hp, hrest⟩ := l3 rb.length (by simp)
  rw [getD_last] at hr
  obtain ⟨ao, c, hv⟩ := hsrc.1.shape
  rw [hv] at hr
  exact ⟨ao, xs.length, c, p, hr, hp, hsrc.2.1.2, by rw [hrest, List.length_drop]⟩
end

/-- What holds at the head of the loop. -/
def RunIP (W : World) (calls : List CV) (κ : Nat → Nat) (w : World) (sb : Nat) (callsV : Value) (rb : List Nat) (fuel : Nat) (N : Int) (s : PS) (k : Nat) (wr : World) : Prop :=
  ∃ f t, play calls fuel N s = play calls f (N - k) t ∧ 400 < t.pos + f ∧ f ≤ fuel ∧ k ≤ t.pos ∧ LvP W κ w sb callsV rb t wr

/-- Behind a call: the next round, or a fault. -/
def NextP (W : World) (calls : List CV) (κ : Nat → Nat) (w : World) (sb : Nat) (callsV : Value) (rb : List Nat) (fuel : Nat) (N : Int) (s : PS) (k : Nat) (wr : World) : Prop :=
  RunIP W calls κ w sb callsV rb fuel N s (k + 1) wr ∨ ∃ t j flt, play calls fuel N s = (t, some (j, flt)) ∧ TvP W κ w sb callsV rb t j flt wr

section
variable {W w w' : World} {calls : List CV} {κ : Nat → Nat} {sb : Nat} {callsV : Value} {rb : List Nat} {fuel f k : Nat} {N : Int} {s t t' : PS}

theorem RunIP.mk2 (hpl : play calls fuel N s = play calls (f + 1) (N - k) t) (hst : play calls (f + 1) (N - k) t = play calls f (N - k - 1) t') (hft : 400 < t.pos + (f + 1)) (hff : f + 1 ≤ fuel) (hkt : k ≤ t.pos) (hp : t.pos + 1 ≤ t'.pos) (hlv : LvP W κ w sb callsV rb t' w') : NextP W calls κ w sb callsV rb fuel N s k w' :=
  .inl ⟨f, t', by rw [hpl, hst, show N - ((k + 1 : Nat) : Int) = N - k - 1 from by omega], by omega, by omega, by omega, hlv⟩

theorem RunIP.deep (hpl : play calls fuel N s = play calls (f + 1) (N - k) t) (hc : 0 < N - k ∧ t.pos < calls.length ∧ t.pos < 400) (hft : 400 < t.pos + (f + 1)) (hff : f + 1 ≤ fuel) (hkt : k ≤ t.pos) (hk : (calls.getD t.pos CV.default).k = 10) (h20 : ¬ t.rs.length < 20) (hlv : LvP W κ w sb callsV rb { t with pos := t.pos + 1 } w') : NextP W calls κ w sb callsV rb fuel N s k w' :=
  RunIP.mk2 hpl (play_deep hc hk h20) hft hff hkt (Nat.le_refl _) hlv

theorem RunIP.call (hpl : play calls fuel N s = play calls (f + 1) (N - k) t) (hc : 0 < N - k ∧ t.pos < calls.length ∧ t.pos < 400) (hft : 400 < t.pos + (f + 1)) (hff : f + 1 ≤ fuel) (hkt : k ≤ t.pos) (hk : ¬ (calls.getD t.pos CV.default).k = 10) (hp : callP (calls.getD t.pos CV.default) { t with pos := t.pos + 1 } = (t', none)) (hlv : LvP W κ w sb callsV rb t' w') : NextP W calls κ w sb callsV rb fuel N s k w' :=
  RunIP.mk2 hpl (play_call hc hk hp) hft hff hkt (by have := (callP_pos (calls.getD t.pos CV.default) { t with pos := t.pos + 1 }).1; rw [hp] at this; dsimp only at this; omega) hlv

theorem RunIP.inn {x : Int} {D : Nat} (hpl : play calls fuel N s = play calls (f + 1) (N - k) t) (hc : 0 < N - k ∧ t.pos < calls.length ∧ t.pos < 400) (hft : 400 < t.pos + (f + 1)) (hff : f + 1 ≤ fuel) (hkt : k ≤ t.pos) (hk : (calls.getD t.pos CV.default).k = 10) (hD : t.rs.length = D) (h20 : D < 20)
    (hp : play calls f (calls.getD t.pos CV.default).n { t with pos := t.pos + 1, rs := t.rs ++ [(calls.getD t.pos CV.default).xs], many := t.many + 1 } = (t', none) ∧ x = tailOf (t'.rs.getD D []).length 0 ∨ play calls f (calls.getD t.pos CV.default).n { t with pos := t.pos + 1, rs := t.rs ++ [(calls.getD t.pos CV.default).xs], many := t.many + 1 } = (t', some (D, x)))
    (hlv : LvP W κ w sb callsV rb { t' with rs := t'.rs.take D, rets := t'.rets ++ [x] } w') : NextP W calls κ w sb callsV rb fuel N s k w' := by
  subst hD
  have hpos := (play_pos calls f (calls.getD t.pos CV.default).n { t with pos := t.pos + 1, rs := t.rs ++ [(calls.getD t.pos CV.default).xs], many := t.many + 1 }).1
  rcases hp with ⟨hp, rfl⟩ | hp
  · rw [hp] at hpos
    exact RunIP.mk2 hpl (play_in hc hk h20 hp) hft hff hkt hpos hlv
  · rw [hp] at hpos
    exact RunIP.mk2 hpl (play_caught hc hk h20 hp) hft hff hkt hpos hlv
end
end Go.Proofs.Ytffabihenhejfaa

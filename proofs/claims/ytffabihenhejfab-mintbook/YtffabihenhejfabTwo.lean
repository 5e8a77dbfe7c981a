/-
  Two Writers side by side.
-/
import Derived.Test.YtffabihenhejfabNone
namespace Go.Proofs.Ytffabihenhejfab
open Go.ChangeShapes Go.WideShapes Go.ChangeAt Go.RowKit Go.Deep
set_option linter.unusedVariables false

/-- A list that was handed in. -/
def Arg (W : World) (v : Value) : Prop :=
  (∃ ao c, v = .slice ao 0 c) ∨ ∃ (b o c : Nat) (arg : List ItV), v = .slice (some ⟨b, o, none⟩) arg.length c ∧ arg.length ≤ maxLen ∧ ArgItems W b o arg ∧ (∀ i, i < arg.length → ArgOk W (arg.getD i ItV.default)) ∧ b < W.heap.size

theorem Arg.kept {W w' : World} {v : Value} (h : Arg W v) (hk : Kept (fun _ => False) W w') : Arg w' v := by
  rcases h with h | ⟨b, o, c, arg, h1, h2, h3, h4, h5⟩
  · exact .inl h
  · exact .inr ⟨b, o, c, arg, h1, h2, fun i hi => ⟨hk.cell (h3 i hi).1 (fun f => f), hk.cell (h3 i hi).2.1 (fun f => f), hk.cell (h3 i hi).2.2 (fun f => f)⟩,
      fun i hi => by obtain ⟨a1, a2, a3, a4, a5, a6⟩ := h4 i hi; exact ⟨a1, a2, a3, a4, a5.kept hk (fun _ _ f => f), a6⟩, Nat.lt_of_lt_of_le h5 hk.size⟩

/-- The turns that were handed in. -/
def Turns (W : World) (v : Value) : Prop :=
  (∃ ao c, v = .slice ao 0 c) ∨ ∃ (b o c : Nat) (zs : List Int), v = .slice (some ⟨b, o, none⟩) zs.length c ∧ 0 < zs.length ∧ zs.length ≤ maxLen ∧ (∀ i, i < zs.length → W.cell? ⟨b, o + i, none⟩ = some (.int .i64 (zs.getD i 0)) ∧ -9223372036854775808 ≤ zs.getD i 0 ∧ zs.getD i 0 ≤ 9223372036854775807)

theorem Turns.kept {W w' : World} {v : Value} (h : Turns W v) (hk : Kept (fun _ => False) W w') : Turns w' v := by
  rcases h with h | ⟨b, o, c, zs, h1, h2, h3, h4⟩
  · exact .inl h
  · exact .inr ⟨b, o, c, zs, h1, h2, h3, fun i hi => ⟨hk.cell (h4 i hi).1 (fun f => f), (h4 i hi).2⟩⟩

theorem open_turns {H : Type} {enc : TypeId × Value → H} {W : World} {base : Nat} {spare : Nat → Bool} {held : Bool} {fuel : Nat} {v : Value} {x : DataW H × List MemPlace} (h : DataW.trod enc Try.prog W base spare held fuel 23 [v] = some x) : Turns W v := by
  rcases open_ints Try.underlying23 Try.underlying3 cells3 h with ⟨hcs, _⟩ | ⟨a, len, cap, zs, hcs, hb, hl, hm, hz, _, hcell, hwz⟩
  · cases hcs
    exact .inl ⟨_, _, rfl⟩
  · cases hcs
    have hle : len ≤ zs.length := by rw [hz]; split <;> omega
    have hlen : (zs.take len).length = len := by rw [List.length_take]; omega
    cases len with
    | zero => exact .inl ⟨_, _, rfl⟩
    | succ len =>
      obtain ⟨b, off, spot⟩ := a
      have hc := hcell 0 (by omega)
      have hspot : spot = none := by simpa [Addr.add] using World.cell?_spot hc
      subst hspot
      refine .inr ⟨b, off, cap, zs.take (len + 1), by rw [hlen], by rw [hlen]; omega, by rw [hlen]; omega, fun i hi => ?_⟩
      rw [hlen] at hi
      have h1 := hcell i (by omega)
      rw [Addr.add_lit] at h1
      have h2 : (zs.take (len + 1)).getD i 0 = zs.getD i 0 := getD_take zs (len + 1) i hi
      have hiz : i < zs.length := by omega
      have h3 : zs.getD i 0 = zs[i] := by simp [List.getD, hiz]
      have h4 := bounds_i64 (hwz zs[i] (List.getElem_mem hiz))
      rw [h2, h3, h1]
      exact ⟨by simp [hiz], h4.1, h4.2⟩

theorem isR_own {w : World} {base d : Nat} {v : Value} {n : Nat} {xs : List Int} (h : w.ownsRow base 5 1 v n (xs.map (Value.int .u8))) (hd : d < w.heap.size) : ∃ g, g < w.heap.size ∧ IsR w g v xs ∧ (g = d ∨ base ≤ g) := by
  have hn : xs.length = n := by have := h.1; simpa using this
  rcases h.2 with ⟨rfl, h0⟩ | ⟨g, cap, cur, rfl, hb, hg, hc, hm, hs, ht⟩
  · exact ⟨d, hd, .inl ⟨List.length_eq_zero_iff.1 (by omega), none, .inl rfl, rfl⟩, .inl rfl⟩
  · refine ⟨g, (Array.getElem?_eq_some_iff.1 hg).1, ?_, .inr hb⟩
    by_cases h0 : cap = 0
    · subst h0
      have : n = 0 := by omega
      subst this
      exact .inl ⟨List.length_eq_zero_iff.1 hn, _, .inr ⟨0, rfl⟩, rfl⟩
    · refine .inr ⟨0, cap, by rw [hn], by omega, by omega, hm, fun i hi => ?_⟩
      have := h.cells (g := g) rfl i (.int .u8 (xs.getD i 0)) (by simp [List.getD, hi])
      rw [Addr.add_lit] at this
      exact this

/-- Two Writers: what was put into each; their rows are apart; and how far each list was told to be. -/
structure Two (w2 wr : World) (its0 its1 : List ItV) (i j m n : Nat) (va vb : Value) : Prop where
  a : WS wr w2.heap.size va (run (its0.take i))
  b : WS wr (w2.heap.size + 1) vb (run (its1.take j))
  t : wr.heap[w2.heap.size + 2]? = some (.cells #[.int .i64 (m : Int), .int .i64 (n : Int)] 28 (0, 0))
  kept : Kept (fun _ => False) w2 wr
  oa : ∀ q, va.ownBlock = some q → w2.heap.size + 2 < q ∧ vb.ownBlock ≠ some q
  ob : ∀ q, vb.ownBlock = some q → w2.heap.size + 2 < q

theorem Two.tl {w2 wr : World} {its0 its1 : List ItV} {i j m n : Nat} {va vb : Value} (h : Two w2 wr its0 its1 i j m n va vb) : w2.heap.size + 2 < wr.heap.size := (Array.getElem?_eq_some_iff.1 h.t).1

theorem two_start (w2 : World) (its0 its1 : List ItV) : Two w2 (((w2.alloc (.cells #[.slice none 0 0, .int .i64 0] 55)).alloc (.cells #[.slice none 0 0, .int .i64 0] 55)).alloc (.cells #[.int .i64 0, .int .i64 0] 28)) its0 its1 0 0 0 0 (.slice none 0 0) (.slice none 0 0) := by
  refine ⟨(wr_new_s w2).new (((Kept.refl _ _).alloc _).alloc _), ?_, ?_, (((Kept.refl _ _).alloc _).alloc _).alloc _, fun q hq => (by cases hq), fun q hq => (by cases hq)⟩
  · have := wr_new_s (w2.alloc (.cells #[.slice none 0 0, .int .i64 0] 55))
    rw [show (w2.alloc (.cells #[.slice none 0 0, .int .i64 0] 55)).heap.size = w2.heap.size + 1 from by simp] at this
    exact this.new ((Kept.refl _ _).alloc _)
  · have := heap_alloc_new ((w2.alloc (.cells #[.slice none 0 0, .int .i64 0] 55)).alloc (.cells #[.slice none 0 0, .int .i64 0] 55)) (.cells #[.int .i64 0, .int .i64 0] 28)
    rw [show ((w2.alloc (.cells #[.slice none 0 0, .int .i64 0] 55)).alloc (.cells #[.slice none 0 0, .int .i64 0] 55)).heap.size = w2.heap.size + 2 from by simp] at this
    exact this

theorem Two.set {w2 wr : World} {its0 its1 : List ItV} {i j m n : Nat} {va vb : Value} (h : Two w2 wr its0 its1 i j m n va vb) (o m' n' : Nat) (u : Value) (hu : (#[Value.int .i64 (m : Int), .int .i64 (n : Int)] : Array Value).setIfInBounds o u = #[.int .i64 (m' : Int), .int .i64 (n' : Int)]) :
    Two w2 (wr.setCell ⟨w2.heap.size + 2, o, none⟩ u) its0 its1 i j m' n' va vb := by
  have hk : Kept (fun k => k = w2.heap.size + 2) wr (wr.setCell ⟨w2.heap.size + 2, o, none⟩ u) := kept_set wr _ o u
  refine ⟨h.a.kept hk (by omega) (fun q hq e => by have := (h.oa q hq).1; omega), h.b.kept hk (by omega) (fun q hq e => by have := h.ob q hq; omega), ?_, h.kept.step hk (fun q hq e => by omega), h.oa, h.ob⟩
  rw [set_block _ _ _ _ _ _ h.t, hu]

/-- Every item of a list is right, and its bytes lie where they lay. -/
def AllGood (w : World) (its : List ItV) : Prop := ∀ i, i < its.length → Good (its.getD i ItV.default) ∧ IsB w (its.getD i ItV.default).bv (its.getD i ItV.default).xs

theorem Two.putA {w2 wr : World} {its0 its1 : List ItV} {i j m n : Nat} {va vb : Value} (h : Two w2 wr its0 its1 i j m n va vb) (hg : AllGood w2 its0) (hi : i < its0.length) :
    Calls Try.prog 8 #[.pointer (some ⟨w2.heap.size, 0, none⟩), .agg #[.int .i64 (its0.getD i ItV.default).k, .int .i64 (its0.getD i ItV.default).n, (its0.getD i ItV.default).bv]] wr fun e w' => e = .returned (.bool true) ∧ ∃ va', Two w2 w' its0 its1 (i + 1) j m n va' vb := by
  obtain ⟨hgd, hib⟩ := hg i hi
  have hst := run_take its0 i hi
  have hpt := put_any w2.heap.size va _ _ _ _ _ wr h.a hgd.1 hgd.2.1 hgd.2.2.1 hgd.2.2.2.1 (hib.kept h.kept (fun _ _ f => f)) hgd.2.2.2.2.2.2.1 hgd.2.2.2.2.2.2.2 (fun hne q hq => by
    have := hib.lt hne q hq
    exact ⟨by omega, fun e => by have := (h.oa q e).1; omega⟩)
  rw [← hst] at hpt
  refine hpt.mono ?_
  rintro e w' ⟨rfl, v', h1, h2, h3⟩
  refine ⟨rfl, v', h1, h.b.kept h2 (fun e => ?_) (fun q hq e => ?_), (h2.block _ h.tl (fun e => ?_)).trans h.t, h.kept.step h2 (fun q hq e => ?_), fun q hq => ?_, h.ob⟩
  · rcases e with e | e
    · omega
    · exact absurd (h.oa _ e).1 (by omega)
  · rcases e with e | e
    · have := h.ob q hq; omega
    · exact (h.oa q e).2 hq
  · rcases e with e | e
    · omega
    · exact absurd (h.oa _ e).1 (by omega)
  · rcases e with e | e
    · omega
    · have := (h.oa q e).1; omega
  · rcases h3 q hq with e | e
    · exact h.oa q e
    · exact ⟨by have := h.tl; omega, fun f => by have := (h.b.lt q f).1; omega⟩

theorem Two.putB {w2 wr : World} {its0 its1 : List ItV} {i j m n : Nat} {va vb : Value} (h : Two w2 wr its0 its1 i j m n va vb) (hg : AllGood w2 its1) (hj : j < its1.length) :
    Calls Try.prog 8 #[.pointer (some ⟨w2.heap.size + 1, 0, none⟩), .agg #[.int .i64 (its1.getD j ItV.default).k, .int .i64 (its1.getD j ItV.default).n, (its1.getD j ItV.default).bv]] wr fun e w' => e = .returned (.bool true) ∧ ∃ vb', Two w2 w' its0 its1 i (j + 1) m n va vb' := by
  obtain ⟨hgd, hib⟩ := hg j hj
  have hst := run_take its1 j hj
  have hpt := put_any (w2.heap.size + 1) vb _ _ _ _ _ wr h.b hgd.1 hgd.2.1 hgd.2.2.1 hgd.2.2.2.1 (hib.kept h.kept (fun _ _ f => f)) hgd.2.2.2.2.2.2.1 hgd.2.2.2.2.2.2.2 (fun hne q hq => by
    have := hib.lt hne q hq
    exact ⟨by omega, fun e => by have := h.ob q e; omega⟩)
  rw [← hst] at hpt
  refine hpt.mono ?_
  rintro e w' ⟨rfl, v', h1, h2, h3⟩
  have hab : ∀ q, va.ownBlock = some q → ¬ (q = w2.heap.size + 1 ∨ vb.ownBlock = some q) := fun q hq e => by
    rcases e with e | e
    · have := (h.oa q hq).1; omega
    · exact (h.oa q hq).2 e
  refine ⟨rfl, v', h.a.kept h2 (fun e => ?_) hab, h1, (h2.block _ h.tl (fun e => ?_)).trans h.t, h.kept.step h2 (fun q hq e => ?_), fun q hq => ⟨(h.oa q hq).1, fun e => ?_⟩, fun q hq => ?_⟩
  · rcases e with e | e
    · omega
    · exact absurd (h.ob _ e) (by omega)
  · rcases e with e | e
    · omega
    · exact absurd (h.ob _ e) (by omega)
  · rcases e with e | e
    · omega
    · have := h.ob q e; omega
  · rcases h3 q e with f | f
    · exact (h.oa q hq).2 f
    · have := (h.a.lt q hq).1; omega
  · rcases h3 q hq with e | e
    · exact h.ob q e
    · have := h.tl; omega

theorem Two.new {w2 wr w' : World} {its0 its1 : List ItV} {i j m n : Nat} {va vb : Value} (h : Two w2 wr its0 its1 i j m n va vb) (hk : Kept (fun _ => False) wr w') : Two w2 w' its0 its1 i j m n va vb :=
  ⟨h.a.new hk, h.b.new hk, (hk.block _ h.tl (fun f => f)).trans h.t, h.kept.trans hk, h.oa, h.ob⟩

theorem kept_below {w w' : World} (h : Below w.heap.size w w') : Kept (fun _ => False) w w' := (kept_of_below h).mono (fun q hq e => absurd hq (by omega))

theorem Two.doneA {w2 wr : World} {its0 its1 : List ItV} {i j m n : Nat} {va vb : Value} (h : Two w2 wr its0 its1 i j m n va vb) (hr : run (its0.take i) = .ok (encs (its0.take i))) :
    Calls Try.prog 9 #[.pointer (some ⟨w2.heap.size, 0, none⟩)] wr fun e w' => ∃ v', e = .returned (.tuple #[v', .int .i64 0]) ∧ w'.ownsRow wr.heap.size 5 1 v' (encs (its0.take i)).length ((encs (its0.take i)).map (Value.int .u8)) ∧ Kept (fun _ => False) wr w' ∧ Two w2 w' its0 its1 i j m n va vb := by
  have ha := h.a
  rw [hr] at ha
  refine (done_s _ _ _ _ ha).mono ?_
  rintro e w' ⟨v', rfl, ho, hb⟩
  exact ⟨v', rfl, ho, kept_below hb, h.new (kept_below hb)⟩

theorem Two.doneB {w2 wr : World} {its0 its1 : List ItV} {i j m n : Nat} {va vb : Value} (h : Two w2 wr its0 its1 i j m n va vb) (hr : run (its1.take j) = .ok (encs (its1.take j))) :
    Calls Try.prog 9 #[.pointer (some ⟨w2.heap.size + 1, 0, none⟩)] wr fun e w' => ∃ v', e = .returned (.tuple #[v', .int .i64 0]) ∧ w'.ownsRow wr.heap.size 5 1 v' (encs (its1.take j)).length ((encs (its1.take j)).map (Value.int .u8)) ∧ Kept (fun _ => False) wr w' ∧ Two w2 w' its0 its1 i j m n va vb := by
  have hb := h.b
  rw [hr] at hb
  refine (done_s _ _ _ _ hb).mono ?_
  rintro e w' ⟨v', rfl, ho, hbl⟩
  exact ⟨v', rfl, ho, kept_below hbl, h.new (kept_below hbl)⟩
end Go.Proofs.Ytffabihenhejfab

/-
  THE WRITER, WITH ITS FAULTS: its state as data, and the contracts of stop, room, Raw.
-/
import Derived.Test.YtffabihenhejfaaForm
namespace Go.Proofs.Ytffabihenhejfaa
open Go.RowKit
set_option linter.unusedVariables false

/-- What was put: the bytes, or the first fault. -/
abbrev St := Except Int (List Int)

/-- Bytes are put. -/
def St.put (s : St) (m : List Int) : St :=
  match s with
  | .ok l => if l.length + m.length ≤ 4194304 then .ok (l ++ m) else .error 2
  | .error e => .error e

theorem St.put_put (s : St) (m k : List Int) : (s.put m).put k = s.put (m ++ k) := by
  cases s with
  | error e => rfl
  | ok l =>
    simp only [St.put]
    by_cases h : l.length + m.length ≤ 4194304
    · rw [if_pos h]
      simp only [List.length_append, List.append_assoc, Nat.add_assoc]
    · rw [if_neg h, if_neg (by simp only [List.length_append]; omega)]

/-- The Writer at block a, whose field 'out' holds v. -/
def WS (w : World) (a : Nat) (v : Value) : St → Prop
  | .ok l => Wr w a v l ∧ l.length ≤ 4194304
  | .error e => w.heap[a]? = some (.cells #[.slice none 0 0, .int .i64 e] 78 (0, 0)) ∧ e ≠ 0 ∧ v = .slice none 0 0

/-- What a put leaves. -/
def PutS (a : Nat) (v : Value) (s : St) (w : World) (e : Ending) (w' : World) : Prop :=
  e = .returned (.tuple #[]) ∧ ∃ v', WS w' a v' s ∧ Kept (fun k => k = a ∨ v.ownBlock = some k) w w' ∧ (∀ g, v'.ownBlock = some g → v.ownBlock = some g ∨ w.heap.size ≤ g)

theorem WS.size {w : World} {a : Nat} {v : Value} {s : St} (h : WS w a v s) : a < w.heap.size := by
  cases s with
  | ok l => exact (Array.getElem?_eq_some_iff.1 h.1.1).1
  | error e => exact (Array.getElem?_eq_some_iff.1 h.1).1

theorem WS.lt {w : World} {a : Nat} {v : Value} {s : St} (h : WS w a v s) : ∀ g, v.ownBlock = some g → g < w.heap.size ∧ g ≠ a := by
  intro g hg
  cases s with
  | ok l => exact ⟨(h.1.2.1.lt g hg).2, fun e => h.1.2.2 (by rw [← e]; exact hg)⟩
  | error e => obtain ⟨_, _, rfl⟩ := h; cases hg

theorem WS.kept {w w1 : World} {a : Nat} {v : Value} {s : St} {S : Nat → Prop} (hw : WS w a v s) (h : Kept S w w1) (hS : ¬ S a) (hS' : ∀ g, v.ownBlock = some g → ¬ S g) : WS w1 a v s := by
  have ha := hw.size
  cases s with
  | ok l =>
    obtain ⟨⟨h0, h1, h2⟩, h3⟩ := hw
    exact ⟨⟨(h.block a ha hS).trans h0, h.ownsRow h1 (fun g hg => hS' g hg), h2⟩, h3⟩
  | error e =>
    obtain ⟨h0, h1, h2⟩ := hw
    exact ⟨(h.block a ha hS).trans h0, h1, h2⟩

/-- Behind memory of its own a put is as it was. -/
theorem PutS.behind {a : Nat} {v : Value} {s : St} {w w1 : World} {e : Ending} {w' : World} (h : PutS a v s w1 e w') (hk : Kept (fun _ => False) w w1) : PutS a v s w e w' := by
  obtain ⟨rfl, v', h1, h2, h3⟩ := h
  refine ⟨rfl, v', h1, (hk.mono (fun _ _ f => f.elim)).trans h2, fun g hg => ?_⟩
  rcases h3 g hg with h | h
  · exact .inl h
  · exact .inr (Nat.le_trans hk.size h)

/-- Two puts. -/
theorem PutS.next {a : Nat} {v v1 : Value} {s : St} {w w1 : World} {e : Ending} {w' : World} (hk : Kept (fun k => k = a ∨ v.ownBlock = some k) w w1) (ho : ∀ g, v1.ownBlock = some g → v.ownBlock = some g ∨ w.heap.size ≤ g)
    (h : PutS a v1 s w1 e w') : PutS a v s w e w' := by
  obtain ⟨rfl, v', h1, h2, h3⟩ := h
  refine ⟨rfl, v', h1, hk.step h2 (fun i hi hh => ?_), fun g hg => ?_⟩
  · rcases hh with rfl | hh
    · exact .inl rfl
    · rcases ho i hh with h | h
      · exact .inr h
      · omega
  · rcases h3 g hg with h | h
    · exact ho g h
    · exact .inr (Nat.le_trans hk.size h)

theorem bad_cells {w : World} {a : Nat} {e : Int} (h : w.heap[a]? = some (.cells #[.slice none 0 0, .int .i64 e] 78 (0, 0))) : w.cell? ⟨a, 0, none⟩ = some (.slice none 0 0) ∧ w.cell? ⟨a, 1, none⟩ = some (.int .i64 e) :=
  ⟨by rw [cell_block w a 0 _ _ _ h]; rfl, by rw [cell_block w a 1 _ _ _ h]; rfl⟩

set_option maxRecDepth 100000 in
set_option maxHeartbeats 400000 in
theorem stop_bad (a : Nat) (e k : Int) (w : World) (h : w.heap[a]? = some (.cells #[.slice none 0 0, .int .i64 e] 78 (0, 0))) (he : e ≠ 0) :
    Calls Try.prog 53 #[.pointer (some ⟨a, 0, none⟩), .int .i64 k] w fun r w' => r = .returned (.tuple #[]) ∧ w' = w := by
  obtain ⟨h0, h1⟩ := bad_cells h
  have hq : (e == 0) = false := by simp [he]
  clear h he
  go_enter Try.func53, Try.ntmps53
  go_wp2
  go_end0
  exact ⟨rfl, rfl⟩

set_option maxRecDepth 100000 in
set_option maxHeartbeats 400000 in
theorem stop_ok (a : Nat) (v : Value) (l : List Int) (k : Int) (w : World) (h : Wr w a v l) :
    Calls Try.prog 53 #[.pointer (some ⟨a, 0, none⟩), .int .i64 k] w fun r w' => r = .returned (.tuple #[]) ∧ w'.heap[a]? = some (.cells #[.slice none 0 0, .int .i64 k] 78 (0, 0)) ∧ Kept (fun k => k = a) w w' := by
  obtain ⟨h0, h1, f0, f1, hal⟩ := wr_cells h
  have H : ((w.setCell ⟨a, 1, none⟩ (.int .i64 k)).setCell ⟨a, 0, none⟩ (.slice none 0 0)).heap[a]? = some (.cells #[.slice none 0 0, .int .i64 k] 78 (0, 0)) := by
    rw [set_block _ a 0 _ _ _ (set_block _ a 1 _ _ _ h.1 _)]
    rfl
  have HK : Kept (fun k => k = a) w ((w.setCell ⟨a, 1, none⟩ (.int .i64 k)).setCell ⟨a, 0, none⟩ (.slice none 0 0)) := (kept_set w a 1 _).trans (kept_set _ a 0 _)
  have HH := hid_of H
  clear H h
  go_enter Try.func53, Try.ntmps53
  go_wp2
  go_end0
  exact ⟨rfl, HH.out, HK⟩

set_option maxRecDepth 100000 in
set_option maxHeartbeats 400000 in
theorem room_bad (a : Nat) (e m : Int) (w : World) (h : w.heap[a]? = some (.cells #[.slice none 0 0, .int .i64 e] 78 (0, 0))) (he : e ≠ 0) (hm : 0 ≤ m) (hm' : m ≤ 9223372036854775807) :
    Calls Try.prog 51 #[.pointer (some ⟨a, 0, none⟩), .int .i64 m] w fun r w' => r = .returned (.bool false) ∧ w' = w := by
  obtain ⟨h0, h1⟩ := bad_cells h
  have hq : (e == 0) = false := by simp [he]
  have hs := hid_of (stop_bad a e 2 w h he)
  clear h he
  by_cases hb : m ≤ 4194304
  · go_enter Try.func51, Try.ntmps51
    go_wp2
    go_ret
    exact ⟨rfl, rfl⟩
  · go_enter Try.func51, Try.ntmps51
    go_wp2_with fail
    refine hs.out.mono ?_
    rintro r w1 ⟨rfl, rfl⟩
    go_wp2
    go_ret
    exact ⟨rfl, rfl⟩

set_option maxRecDepth 100000 in
set_option maxHeartbeats 400000 in
theorem room_full (a : Nat) (v : Value) (l : List Int) (m : Int) (w : World) (h : Wr w a v l) (hm : 4194304 < (l.length : Int) + m) (hm' : m ≤ 9223372036854775807) (hl : (l.length : Int) ≤ 4194304) :
    Calls Try.prog 51 #[.pointer (some ⟨a, 0, none⟩), .int .i64 m] w fun r w' => r = .returned (.bool false) ∧ w'.heap[a]? = some (.cells #[.slice none 0 0, .int .i64 2] 78 (0, 0)) ∧ Kept (fun k => k = a) w w' := by
  obtain ⟨h0, h1, f0, f1, hal⟩ := wr_cells h
  obtain ⟨ao, cap, rfl⟩ := ownsRow_shape h.2.1
  have hs := hid_of (stop_ok a _ l 2 w h)
  clear h
  go_enter Try.func51, Try.ntmps51
  go_wp2_with fail
  refine hs.out.mono ?_
  rintro r w1 ⟨rfl, hb, hk⟩
  obtain ⟨k0, k1⟩ := bad_cells hb
  have HB := hid_of hb
  have HK := hid_of hk
  clear hb hk hs
  go_wp2
  go_ret
  exact ⟨rfl, HB.out, HK.out⟩

set_option maxRecDepth 100000 in
set_option maxHeartbeats 400000 in
theorem raw_bad (a : Nat) (e : Int) (ao : Option Addr) (m c : Nat) (w : World) (h : w.heap[a]? = some (.cells #[.slice none 0 0, .int .i64 e] 78 (0, 0))) (he : e ≠ 0) (hm : m ≤ maxLen) :
    Calls Try.prog 28 #[.pointer (some ⟨a, 0, none⟩), .slice ao m c] w fun r w' => r = .returned (.tuple #[]) ∧ w' = w := by
  unfold maxLen at hm
  have hr := hid_of (room_bad a e m w h he (by omega) (by omega))
  clear h he
  go_enter Try.func28, Try.ntmps28
  go_wp2_with fail
  refine hr.out.mono ?_
  rintro r w1 ⟨rfl, rfl⟩
  go_wp2
  go_end0
  exact ⟨rfl, rfl⟩

set_option maxRecDepth 100000 in
set_option maxHeartbeats 400000 in
theorem raw_full (a : Nat) (v : Value) (l : List Int) (ao : Option Addr) (m c : Nat) (w : World) (h : Wr w a v l) (hm : m ≤ maxLen) (hf : 4194304 < l.length + m) (hl : l.length ≤ 4194304) :
    Calls Try.prog 28 #[.pointer (some ⟨a, 0, none⟩), .slice ao m c] w fun r w' => r = .returned (.tuple #[]) ∧ w'.heap[a]? = some (.cells #[.slice none 0 0, .int .i64 2] 78 (0, 0)) ∧ Kept (fun k => k = a) w w' := by
  unfold maxLen at hm
  have hr := hid_of (room_full a v l m w h (by omega) (by omega) (by omega))
  clear h
  go_enter Try.func28, Try.ntmps28
  go_wp2_with fail
  refine hr.out.mono ?_
  rintro r w1 ⟨rfl, h1, h2⟩
  have H1 := hid_of h1
  have H2 := hid_of h2
  clear h1 h2 hr
  go_wp2
  go_end0
  exact ⟨rfl, H1.out, H2.out⟩

theorem PutS.same {a : Nat} {v : Value} {s : St} {w : World} (h : WS w a v s) : PutS a v s w (.returned (.tuple #[])) w := ⟨rfl, v, h, Kept.refl _ _, fun g hg => .inl hg⟩

/-- Raw, in whatever state. -/
theorem raw_s (a : Nat) (v : Value) (s : St) (p : Addr) (m c : Nat) (xs : List Int) (w : World) (hw : WS w a v s) (hx : xs.length = m) (hm : m ≤ maxLen)
    (hc : ∀ i, i < m → w.cell? (p.add i) = some (.int .u8 (xs.getD i 0))) :
    Calls Try.prog 28 #[.pointer (some ⟨a, 0, none⟩), .slice (some p) m c] w (PutS a v (s.put xs) w) := by
  cases s with
  | error e =>
    refine (raw_bad a e (some p) m c w hw.1 hw.2.1 hm).mono ?_
    rintro r w1 ⟨rfl, rfl⟩
    exact PutS.same hw
  | ok l =>
    by_cases h : l.length + m ≤ 4194304
    · refine (raw_any a v l p m c xs w hw.1 hx hc h).mono ?_
      rintro r w1 ⟨rfl, v', h1, h2, h3⟩
      refine ⟨rfl, v', ?_, h2, fun g hg => ?_⟩
      · simp only [St.put, hx, if_pos h]
        exact ⟨h1, by simp [hx]; omega⟩
      · rcases h3 with h3 | h3
        · exact .inl (by rw [← h3]; exact hg)
        · rw [h3] at hg; exact .inr (Nat.le_of_eq (Option.some.inj hg))
    · refine (raw_full a v l (some p) m c w hw.1 hm (by omega) hw.2).mono ?_
      rintro r w1 ⟨rfl, h1, h2⟩
      refine ⟨rfl, .slice none 0 0, ?_, h2.mono (fun _ _ e => .inl e), fun g hg => by cases hg⟩
      simp only [St.put, hx, if_neg h]
      exact ⟨h1, by decide, rfl⟩
end Go.Proofs.Ytffabihenhejfaa

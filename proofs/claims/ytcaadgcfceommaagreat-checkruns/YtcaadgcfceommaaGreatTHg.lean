import Derived.Test.YtcaadgcfceommaaGreatTKx
import Derived.Test.YtcaadgcfceommaaGreatTHa
namespace Go.Proofs.YtcaadgcfceommaaGreat
open Go.RowKit
set_option linter.unusedVariables false
set_option linter.unusedSimpArgs false
set_option maxRecDepth 100000
structure TV (N : Nat) (σ : TS) : Prop where
 vis : ∀ i, i < N → σ.turns.getD i 0 ≠ 0 → (i : Int) ∈ σ.opn ∨ (i : Int) ∈ σ.order
 opm : ∀ m ∈ σ.opn, σ.turns.getD m.toNat 0 ≠ 0
 odm : ∀ m ∈ σ.order, σ.turns.getD m.toNat 0 ≠ 0
 pos : ∀ i, i < N → 0 ≤ σ.turns.getD i 0
structure Gone (nx : Nat → List Int) (N : Nat) (σ τ : TS) : Prop where
 mono : ∀ i, i < N → σ.turns.getD i 0 ≠ 0 → τ.turns.getD i 0 ≠ 0
 new : ∀ i, i < N → σ.turns.getD i 0 = 0 → τ.turns.getD i 0 ≠ 0 → ∀ m ∈ nx i, τ.turns.getD m.toNat 0 ≠ 0
theorem Gone.refl (nx : Nat → List Int) (N : Nat) (σ : TS) : Gone nx N σ σ := ⟨fun _ _ h => h, fun _ _ h h' => absurd h h'⟩
theorem Gone.trans {nx : Nat → List Int} {N : Nat} {σ τ ρ : TS} (h : Gone nx N σ τ) (h' : Gone nx N τ ρ) (hnx : ∀ i, i < N → τ.turns.getD i 0 ≠ 0 → ∀ m ∈ nx i, 0 ≤ m ∧ m < N) : Gone nx N σ ρ := by
 refine ⟨fun i hi hm => h'.mono i hi (h.mono i hi hm), fun i hi h0 h1 m hm => ?_⟩
 by_cases ht : τ.turns.getD i 0 = 0
 ·exact h'.new i hi ht h1 m hm
 ·obtain ⟨a1, a2⟩ := hnx i hi ht m hm
  exact h'.mono m.toNat (by omega) (h.new i hi h0 ht m hm)
theorem finTn_get : ∀ (l ts : List Int) (i : Nat), (finTn l ts).getD i 0 = ts.getD i 0 ∨ (finTn l ts).getD i 0 = closedI
 | [], ts, i => .inl rfl
 | x :: l, ts, i => by
  rcases finTn_get l (ts.set x.toNat closedI) i with h | h
  ·by_cases e : x.toNat = i
   ·by_cases hl : i < ts.length
    ·right
     show (finTn l (ts.set x.toNat closedI)).getD i 0 = closedI
     rw [h, ← e, getD_set_eq _ (by rw [e]; exact hl)]
    ·left
     show (finTn l (ts.set x.toNat closedI)).getD i 0 = _
     rw [h, List.set_eq_of_length_le (by omega)]
   ·left
    show (finTn l (ts.set x.toNat closedI)).getD i 0 = _
    rw [h, getD_set_ne _ e]
  ·exact .inr h
theorem finTn_mem : ∀ (l ts : List Int) (m : Int), m ∈ l → m.toNat < ts.length → (finTn l ts).getD m.toNat 0 = closedI
 | [], ts, m, h, _ => by simp at h
 | x :: l, ts, m, h, hl => by
  show (finTn l (ts.set x.toNat closedI)).getD m.toNat 0 = closedI
  rcases List.mem_cons.1 h with rfl | h
  ·rcases finTn_get l (ts.set m.toNat closedI) m.toNat with h1 | h1
   ·rw [h1, getD_set_eq _ hl]
   ·exact h1
  ·exact finTn_mem l _ m h (by rw [List.length_set]; exact hl)
section
variable {nx : Nat → List Int} {N : Nat} {R : Nat → Prop}
theorem TV.again {σ : TS} (h : TV N σ) (n : Nat) : TV N { σ with again := σ.again.set n true } := ⟨h.vis, h.opm, h.odm, h.pos⟩
theorem TV.met {σ : TS} (h : TV N σ) (ht : TI N R σ) {n : Nat} (hn : n < N) : TV N (metS σ n) := by
 have hl : n < σ.turns.length := by rw [ht.tl]; exact hn
 have ht0 := ht.tn.1
 refine ⟨fun i hi hne => ?_, fun m hm => ?_, fun m hm => ?_, fun i hi => ?_⟩
 ·show (i : Int) ∈ σ.opn ++ [(n : Int)] ∨ (i : Int) ∈ σ.order
  by_cases e : n = i
  ·subst e; simp
  ·have hne' : σ.turns.getD i 0 ≠ 0 := by
    have h9 : (σ.turns.set n (σ.turn + 1)).getD i 0 ≠ 0 := hne
    rwa [getD_set_ne _ e] at h9
   rcases h.vis i hi hne' with h1 | h1
   ·simp [h1]
   ·exact .inr h1
 ·show (σ.turns.set n (σ.turn + 1)).getD m.toNat 0 ≠ 0
  by_cases e : n = m.toNat
  ·rw [← e, getD_set_eq _ hl]; omega
  ·rw [getD_set_ne _ e]
   have hm' : m ∈ σ.opn ++ [(n : Int)] := hm
   rcases List.mem_append.1 hm' with h1 | h1
   ·exact h.opm m h1
   ·simp at h1
    subst h1
    exact absurd rfl e
 ·show (σ.turns.set n (σ.turn + 1)).getD m.toNat 0 ≠ 0
  by_cases e : n = m.toNat
  ·rw [← e, getD_set_eq _ hl]; omega
  ·rw [getD_set_ne _ e]
   exact h.odm m hm
 ·show 0 ≤ (σ.turns.set n (σ.turn + 1)).getD i 0
  by_cases e : n = i
  ·rw [← e, getD_set_eq _ hl]; omega
  ·rw [getD_set_ne _ e]; exact h.pos i hi
theorem TV.done {σ : TS} (h : TV N σ) (ht : TI N R σ) (first : Nat) : TV N (doneS first σ) ∧ (∀ i, i < N → ((doneS first σ).turns.getD i 0 ≠ 0 ↔ σ.turns.getD i 0 ≠ 0)) := by
 have hc : closedI ≠ 0 := by unfold closedI; decide
 have hmet : ∀ i, i < N → ((finTn (σ.opn.drop first) σ.turns).getD i 0 ≠ 0 ↔ σ.turns.getD i 0 ≠ 0) := fun i hi => by
  rcases finTn_get (σ.opn.drop first) σ.turns i with h1 | h1
  ·rw [h1]
  ·rw [h1]
   refine ⟨fun _ => ?_, fun _ => hc⟩
   by_cases hin : (i : Int) ∈ σ.opn.drop first
   ·have := h.opm _ (List.mem_of_mem_drop hin)
    simpa using this
   ·-- nothing was written there
    have key : ∀ (l ts : List Int), (i : Int) ∉ l → (∀ m ∈ l, 0 ≤ m) → (finTn l ts).getD i 0 = ts.getD i 0 := by
     intro l
     induction l with
     | nil => intro ts _ _; rfl
     | cons x l ih =>
      intro ts hni hp
      show (finTn l (ts.set x.toNat closedI)).getD i 0 = _
      rw [ih _ (fun hx => hni (by simp [hx])) (fun m hm => hp m (by simp [hm]))]
      have hx0 := hp x (by simp)
      have : x.toNat ≠ i := fun e => hni (by rw [← e, Int.toNat_of_nonneg hx0]; simp)
      rw [getD_set_ne _ this]
    rw [key _ _ hin (fun m hm => (ht.op m (List.mem_of_mem_drop hm)).1)] at h1
    rw [h1]
    exact hc
 refine ⟨⟨fun i hi hne => ?_, fun m hm => ?_, fun m hm => ?_, fun i hi => ?_⟩, hmet⟩
 ·show (i : Int) ∈ σ.opn.take first ∨ (i : Int) ∈ σ.order ++ σ.opn.drop first
  rcases h.vis i hi ((hmet i hi).1 hne) with h1 | h1
  ·rw [← List.take_append_drop first σ.opn] at h1
   rcases List.mem_append.1 h1 with h1 | h1
   ·exact .inl h1
   ·exact .inr (by simp [h1])
  ·exact .inr (by simp [h1])
 ·have hm' : m ∈ σ.opn.take first := hm
  have hm2 := List.mem_of_mem_take hm'
  have hb := ht.op m hm2
  exact (hmet m.toNat (by omega)).2 (h.opm m hm2)
 ·have hm' : m ∈ σ.order ++ σ.opn.drop first := hm
  rcases List.mem_append.1 hm' with h1 | h1
  ·have hb := ht.od m h1
   exact (hmet m.toNat (by omega)).2 (h.odm m h1)
  ·have h2 := List.mem_of_mem_drop h1
   have hb := ht.op m h2
   exact (hmet m.toNat (by omega)).2 (h.opm m h2)
 ·show 0 ≤ (finTn (σ.opn.drop first) σ.turns).getD i 0
  rcases finTn_get (σ.opn.drop first) σ.turns i with h1 | h1
  ·rw [h1]; exact h.pos i hi
  ·rw [h1]; unfold closedI; decide
structure MtO (nx : Nat → List Int) (N : Nat) (R : Nat → Prop) (σ : TS) (n : Nat) (r : TS × Int) : Prop where
 ti : TI N R r.1
 tv : TV N r.1
 gone : Gone nx N σ r.1
 met : r.1.turns.getD n 0 ≠ 0
 zc : zc r.1.turns ≤ zc σ.turns
 lo : 1 ≤ r.2
 pre : ∃ l, r.1.opn = σ.opn ++ l
 top : r.2 ≤ σ.turn + 1
 end' : r.2 = σ.turn + 1 → r.1.opn = σ.opn
theorem pos_turn {σ : TS} (h : TV N σ) {m : Nat} (hm : m < N) (hne : σ.turns.getD m 0 ≠ 0) : 1 ≤ σ.turns.getD m 0 := by
 have := h.pos m hm
 omega
theorem loop_out (hR : ∀ n, n < N → R n → ∀ m ∈ nx n, 0 ≤ m ∧ m < N ∧ R m.toNat) (f : Nat) (ih : ∀ (σ : TS) (n : Nat), TI N R σ → TV N σ → n < N → R n → σ.turns.getD n 0 = 0 → zc σ.turns ≤ f → MtO nx N R σ n (meetP nx f σ n)) (n : Nat) :
  ∀ (ms : List Int) (σ : TS) (e : Int), TI N R σ → TV N σ → (∀ m ∈ ms, 0 ≤ m ∧ m < N ∧ R m.toNat) → zc σ.turns ≤ f → 1 ≤ e → (∀ i, i < N → σ.turns.getD i 0 ≠ 0 → R i) →
   TI N R (loopP (meetP nx f) n ms σ e).1 ∧ TV N (loopP (meetP nx f) n ms σ e).1 ∧ Gone nx N σ (loopP (meetP nx f) n ms σ e).1 ∧ (∀ m ∈ ms, (loopP (meetP nx f) n ms σ e).1.turns.getD m.toNat 0 ≠ 0) ∧ zc (loopP (meetP nx f) n ms σ e).1.turns ≤ zc σ.turns ∧ 1 ≤ (loopP (meetP nx f) n ms σ e).2 ∧ (loopP (meetP nx f) n ms σ e).2 ≤ e ∧ (∃ l, (loopP (meetP nx f) n ms σ e).1.opn = σ.opn ++ l)
 | [], σ, e, hI, hV, hm, hz, he, hr => ⟨hI, hV, Gone.refl _ _ _, fun m hm => by simp at hm, Nat.le_refl _, he, Int.le_refl _, [], by simp [loopP]⟩
 | m :: ms, σ, e, hI, hV, hm, hz, he, hr => by
  obtain ⟨σ0, hσ0⟩ := nmd ((if m = (n : Int) then { σ with again := σ.again.set n true } else σ))
  have h0 : σ0.turns = σ.turns ∧ σ0.opn = σ.opn ∧ TI N R σ0 ∧ TV N σ0 := by
   rw [hσ0]
   split
   ·exact ⟨rfl, rfl, hI.again n, hV.again n⟩
   ·exact ⟨rfl, rfl, hI, hV⟩
  obtain ⟨t0, o0, hI0, hV0⟩ := h0
  have hstep : loopP (meetP nx f) n (m :: ms) σ e = if σ0.turns.getD m.toNat 0 = 0 then loopP (meetP nx f) n ms (meetP nx f σ0 m.toNat).1 (minI e (meetP nx f σ0 m.toNat).2) else loopP (meetP nx f) n ms σ0 (minI e (σ0.turns.getD m.toNat 0)) := by
   rw [loopP, ← hσ0]
  obtain ⟨m0, m1, mR⟩ := hm m (by simp)
  rw [hstep]
  by_cases hz0 : σ0.turns.getD m.toNat 0 = 0
  ·rw [if_pos hz0]
   have hO := ih σ0 m.toNat hI0 hV0 (by omega) mR hz0 (by rw [t0]; exact hz)
   have hmin : 1 ≤ minI e (meetP nx f σ0 m.toNat).2 ∧ minI e (meetP nx f σ0 m.toNat).2 ≤ e := by
    unfold minI
    have := hO.lo
    split <;> omega
   have hr2 : ∀ i, i < N → (meetP nx f σ0 m.toNat).1.turns.getD i 0 ≠ 0 → R i := fun i hi hne => by
    rcases hO.tv.vis i hi hne with h1 | h1
    ·have := (hO.ti.op _ h1).2.2; simpa using this
    ·have := (hO.ti.od _ h1).2.2; simpa using this
   obtain ⟨a1, a2, a3, a4, a5, a6, a7, l2, a8⟩ := loop_out hR f ih n ms _ (minI e (meetP nx f σ0 m.toNat).2) hO.ti hO.tv (fun x hx => hm x (by simp [hx])) (by have := hO.zc; rw [t0] at this; omega) hmin.1 hr2
   obtain ⟨l1, hp⟩ := hO.pre
   have hg0 : Gone nx N σ (meetP nx f σ0 m.toNat).1 := ⟨fun i hi h1 => hO.gone.mono i hi (by rw [t0]; exact h1), fun i hi h1 => hO.gone.new i hi (by rw [t0]; exact h1)⟩
   refine ⟨a1, a2, hg0.trans a3 (fun i hi hne x hx => by have := hR i hi (hr2 i hi hne) x hx; exact ⟨this.1, this.2.1⟩), fun x hx => ?_, by have := hO.zc; rw [t0] at this; omega, a6, by omega, l1 ++ l2, by rw [a8, hp, o0, List.append_assoc]⟩
   rcases List.mem_cons.1 hx with rfl | hx
   ·exact a3.mono x.toNat (by omega) hO.met
   ·exact a4 x hx
  ·rw [if_neg hz0]
   have hpm := pos_turn hV0 (show m.toNat < N by omega) hz0
   have hmin : 1 ≤ minI e (σ0.turns.getD m.toNat 0) ∧ minI e (σ0.turns.getD m.toNat 0) ≤ e := by
    unfold minI
    split <;> omega
   obtain ⟨a1, a2, a3, a4, a5, a6, a7, l2, a8⟩ := loop_out hR f ih n ms σ0 _ hI0 hV0 (fun x hx => hm x (by simp [hx])) (by rw [t0]; exact hz) hmin.1 (fun i hi hne => hr i hi (by rw [← t0]; exact hne))
   refine ⟨a1, a2, ⟨fun i hi h1 => a3.mono i hi (by rw [t0]; exact h1), fun i hi h1 => a3.new i hi (by rw [t0]; exact h1)⟩, fun x hx => ?_, Nat.le_trans a5 (by rw [t0]; exact Nat.le_refl _), a6, by omega, l2, by rw [a8, o0]⟩
   rcases List.mem_cons.1 hx with rfl | hx
   ·exact a3.mono x.toNat (by omega) hz0
   ·exact a4 x hx
theorem meet_out (hR : ∀ n, n < N → R n → ∀ m ∈ nx n, 0 ≤ m ∧ m < N ∧ R m.toNat) : ∀ (f : Nat) (σ : TS) (n : Nat), TI N R σ → TV N σ → n < N → R n → σ.turns.getD n 0 = 0 → zc σ.turns ≤ f → MtO nx N R σ n (meetP nx f σ n)
 | 0, σ, n, hI, hV, hn, hr, h0, hz => by
  have := zc_pos (show n < σ.turns.length by rw [hI.tl]; exact hn) h0
  omega
 | f + 1, σ, n, hI, hV, hn, hr, h0, hz => by
  obtain ⟨hI1, hz1⟩ := hI.met hn hr h0
  have hV1 := hV.met hI hn
  have hl : n < σ.turns.length := by rw [hI.tl]; exact hn
  have htn := hI.tn.1
  have hm1 : (metS σ n).turns.getD n 0 ≠ 0 := by
   show (σ.turns.set n (σ.turn + 1)).getD n 0 ≠ 0
   rw [getD_set_eq _ hl]; omega
  have hrm : ∀ {τ : TS}, TI N R τ → TV N τ → ∀ i, i < N → τ.turns.getD i 0 ≠ 0 → R i := fun hI hV i hi hne => by
   rcases hV.vis i hi hne with h1 | h1
   ·have := (hI.op _ h1).2.2; simpa using this
   ·have := (hI.od _ h1).2.2; simpa using this
  obtain ⟨a1, a2, a3, a4, a5, a6, a7, l2, a8⟩ := loop_out hR f (meet_out hR f) n (nx n) (metS σ n) (σ.turn + 1) hI1 hV1 (fun m hm => hR n hn hr m hm) (by omega) (by omega) (hrm hI1 hV1)
  have hop : (metS σ n).opn = σ.opn ++ [(n : Int)] := rfl
  have hgo : Gone nx N σ (loopP (meetP nx f) n (nx n) (metS σ n) (σ.turn + 1)).1 := by
   refine ⟨fun i hi h1 => a3.mono i hi ?_, fun i hi h1 h2 m hm => ?_⟩
   ·show (σ.turns.set n (σ.turn + 1)).getD i 0 ≠ 0
    by_cases e : n = i
    ·subst e; exact hm1
    ·rw [getD_set_ne _ e]; exact h1
   ·by_cases e : n = i
    ·subst e; exact a4 m hm
    ·refine a3.new i hi ?_ h2 m hm
     show (σ.turns.set n (σ.turn + 1)).getD i 0 = 0
     rw [getD_set_ne _ e]; exact h1
  have hmet := a3.mono n hn hm1
  rw [meetP]
  by_cases he : (loopP (meetP nx f) n (nx n) (metS σ n) (σ.turn + 1)).2 = σ.turn + 1
  ·rw [if_pos he]
   obtain ⟨d1, d2⟩ := a2.done a1 σ.opn.length
   have hti := a1.done σ.opn.length
   have hopn : (doneS σ.opn.length (loopP (meetP nx f) n (nx n) (metS σ n) (σ.turn + 1)).1).opn = σ.opn := by
    show List.take σ.opn.length _ = _
    rw [a8, hop, List.append_assoc, List.take_left']
    rfl
   exact ⟨hti.1, d1, ⟨fun i hi h1 => (d2 i hi).2 (hgo.mono i hi h1), fun i hi h1 h2 m hm => by
    have h3 := (d2 i hi).1 h2
    have hri := hrm a1 a2 i hi h3
    have hb := hR i hi hri m hm
    exact (d2 m.toNat (by omega)).2 (hgo.new i hi h1 h3 m hm)⟩, (d2 n hn).2 hmet, Nat.le_trans hti.2 (by omega), by show 1 ≤ (loopP (meetP nx f) n (nx n) (metS σ n) (σ.turn + 1)).2; exact a6, ⟨[], by rw [hopn]; simp⟩, by show (loopP (meetP nx f) n (nx n) (metS σ n) (σ.turn + 1)).2 ≤ _; exact a7, fun _ => hopn⟩
  ·rw [if_neg he]
   exact ⟨a1, a2, hgo, hmet, by omega, a6, ⟨[(n : Int)] ++ l2, by rw [a8, hop, List.append_assoc]⟩, a7, fun h => absurd h he⟩
end
theorem tour_all (nx : Nat → List Int) (N : Nat) (R : Nat → Prop) (hN : 0 < N) (hR0 : R 0) (hR : ∀ n, n < N → R n → ∀ m ∈ nx n, 0 ≤ m ∧ m < N ∧ R m.toNat) : (0 : Int) ∈ (tourP nx N).order ∧ (∀ m ∈ (tourP nx N).order, 0 ≤ m ∧ m < N ∧ R m.toNat) ∧ ∀ i : Nat, (i : Int) ∈ (tourP nx N).order → ∀ m ∈ nx i, m ∈ (tourP nx N).order := by
 have hV0 : TV N (tour0 N) := ⟨fun i hi h => absurd (by simp [tour0, List.getD, hi]) h, fun m hm => by simp [tour0] at hm, fun m hm => by simp [tour0] at hm, fun i hi => by simp [tour0, List.getD, hi]⟩
 have hz0 : (tour0 N).turns.getD 0 0 = 0 := by simp [tour0, List.getD, hN]
 have hO := meet_out hR N (tour0 N) 0 (TI.tour0 N R) hV0 hN hR0 hz0 (by unfold zc tour0; simp)
 have hopn : (tourP nx N).opn = [] := by
  have h1 := hO.lo
  have h2 := hO.top
  have h3 : (tour0 N).turn = 0 := rfl
  rw [h3] at h2
  exact hO.end' (by rw [h3]; omega)
 have hin : ∀ i, i < N → (tourP nx N).turns.getD i 0 ≠ 0 → (i : Int) ∈ (tourP nx N).order := fun i hi hne => by
  rcases hO.tv.vis i hi hne with h1 | h1
  ·have h9 : (i : Int) ∈ (tourP nx N).opn := h1
   rw [hopn] at h9
   simp at h9
  ·exact h1
 refine ⟨hin 0 hN hO.met, hO.ti.od, fun i hi m hm => ?_⟩
 obtain ⟨b1, b2, b3⟩ := hO.ti.od _ hi
 simp only [Int.toNat_natCast] at b3
 have hiN : i < N := by omega
 obtain ⟨c1, c2, c3⟩ := hR i hiN b3 m hm
 have hmi : (tourP nx N).turns.getD i 0 ≠ 0 := by
  have h9 : (tourP nx N).turns.getD ((i : Int)).toNat 0 ≠ 0 := hO.tv.odm _ hi
  rw [Int.toNat_natCast] at h9
  exact h9
 have h9 := hO.gone.new i hiN (by simp [tour0, List.getD, hiN]) hmi m hm
 have := hin m.toNat (by omega) h9
 rwa [Int.toNat_of_nonneg c1] at this
end Go.Proofs.YtcaadgcfceommaaGreat

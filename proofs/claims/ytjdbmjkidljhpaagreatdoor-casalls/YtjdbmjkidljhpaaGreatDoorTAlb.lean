/-
 A World whose steps leave blocks alone.
-/
import Derived.Test.YtjdbmjkidljhpaaGreatDoorTWm
import Derived.Test.YtjdbmjkidljhpaaGreatDoorTWy
import Derived.Test.YtjdbmjkidljhpaaGreatDoorTSlc
namespace Go.Proofs.YtjdbmjkidljhpaaGreatDoor
open Go.RowKit
set_option linter.unusedVariables false
set_option linter.unusedSimpArgs false
set_option maxRecDepth 100000
theorem no_frm {w : World} {q t : Nat} {c : Array Value} {f : Nat × Nat} {o : Obj} (h : w.heap[q]? = some (.cells c t f)) (hq : w.heap[q]? = some o) (ho : Frm o) : False := by
 rw [h] at hq
 cases hq
 rcases ho with ⟨_, e⟩ | ⟨_, e⟩ <;> cases e
theorem no_frm_map {w : World} {q c : Nat} {es : Array MapEntry} {o : Obj} (h : w.heap[q]? = some (.map es c)) (hq : w.heap[q]? = some o) (ho : Frm o) : False := by
 rw [h] at hq
 cases hq
 rcases ho with ⟨_, e⟩ | ⟨_, e⟩ <;> cases e
/-- What a range lays for itself is no block of a World. -/
theorem Wd.frm {w : World} {lo k n g s : Nat} {mv : Value} {σ : Sg} {r : Nat} {lv : Value} {ρ : Rg} {iv : Value} {m : Nat} (h : Wd w lo k n g s mv σ r lv ρ iv m) {q : Nat} {o : Obj} (hq : w.heap[q]? = some o) (ho : Frm o) : ¬ OwnW g s mv r lv iv q ∧ ¬ Blo σ ρ q := by
 refine ⟨fun hw => ?_, fun hb => ?_⟩
 ·rcases hw with rfl | ((rfl | hm) | (rfl | hl)) | hi
  ·exact no_frm h.blk hq ho
  ·exact no_frm h.two.st.blk hq ho
  ·rcases h.two.st.map with ⟨e, _⟩ | ⟨r', c, e, hb, _⟩
   ·rw [e] at hm; cases hm
   ·rw [e] at hm
    cases hm
    exact no_frm_map hb hq ho
  ·exact no_frm h.two.rs.blk hq ho
  ·obtain ⟨c, hc⟩ := row_typ h.two.rs.row hl
   exact no_frm hc hq ho
  ·obtain ⟨c, hc⟩ := h.inn.typ hi
   exact no_frm hc hq ho
 ·rcases hb with ⟨e, he, h0, hg⟩ | ⟨b, hb, h0, hg⟩
  ·obtain ⟨o', x, hc⟩ := (h.two.st.blob e he).1.u8 h0 q hg
   obtain ⟨c, t, f, h1⟩ := cell_cells hc
   exact no_frm h1 hq ho
  ·obtain ⟨o', x, hc⟩ := (h.two.rs.ok b hb).bin.u8 h0 q hg
   obtain ⟨c, t, f, h1⟩ := cell_cells hc
   exact no_frm h1 hq ho
/-- A World, blocks that its steps leave alone (P), blocks that one may write to (X). -/
def AlS (P X : Nat → Prop) (lo : Nat) (w : World) (k n g r : Nat) : Prop :=
 ∃ s mv σ lv ρ iv m, Wd w lo k n g s mv σ r lv ρ iv m ∧ (∀ q, P q → ¬ OwnW g s mv r lv iv q) ∧ ∀ q, X q → P q → ¬ Blo σ ρ q
theorem AlS.kept {P X S : Nat → Prop} {lo k n g r : Nat} {w w' : World} (h : AlS P X lo w k n g r) (hk : Kept S w w') (hs : ∀ q, S q → P q ∧ X q) (h0 : ¬ S 0) : AlS P X lo w' k n g r := by
 obtain ⟨s, mv, σ, lv, ρ, iv, m, h1, h2, h3⟩ := h
 exact ⟨s, mv, σ, lv, ρ, iv, m, h1.kept hk (fun q ho hq => h2 q (hs q hq).1 ho) (fun q hb hq => h3 q (hs q hq).2 (hs q hq).1 hb) h0, h2, h3⟩
theorem AlS.grow {P X : Nat → Prop} {lo k n g r : Nat} {w w' : World} (h : AlS P X lo w k n g r) (hk : Kept (fun _ => False) w w') : AlS P X lo w' k n g r := h.kept hk (fun _ f => f.elim) (fun f => f)
theorem AlS.add {P X : Nat → Prop} {lo k n g r : Nat} {w w' : World} (h : AlS P X lo w k n g r) (hk : Kept (fun _ => False) w w') : AlS (fun q => P q ∨ w.heap.size ≤ q) (fun q => X q ∨ w.heap.size ≤ q) lo w' k n g r := by
 obtain ⟨s, mv, σ, lv, ρ, iv, m, h1, h2, h3⟩ := h
 refine ⟨s, mv, σ, lv, ρ, iv, m, h1.same hk, fun q hq ho => ?_, fun q hx hq hb => ?_⟩
 ·rcases hq with hq | hq
  ·exact h2 q hq ho
  ·have := h1.olt q ho; omega
 ·have hlt := h1.two.blt q hb
  rcases hx with hx | hx
  ·rcases hq with hq | hq
   ·exact h3 q hx hq hb
   ·omega
  ·omega
theorem AlS.sub {P X P' X' : Nat → Prop} {lo k n g r : Nat} {w : World} (h : AlS P X lo w k n g r) (hp : ∀ q, P' q → P q) (hx : ∀ q, X' q → X q) : AlS P' X' lo w k n g r := by
 obtain ⟨s, mv, σ, lv, ρ, iv, m, h1, h2, h3⟩ := h
 exact ⟨s, mv, σ, lv, ρ, iv, m, h1, fun q hq => h2 q (hp q hq), fun q hq hq' => h3 q (hx q hq) (hp q hq')⟩
theorem AlS.more {P X : Nat → Prop} {lo k n n' g r : Nat} {w : World} (h : AlS P X lo w k n g r) (hn : n ≤ n') : AlS P X lo w k n' g r := by
 obtain ⟨s, mv, σ, lv, ρ, iv, m, h1, h2, h3⟩ := h
 exact ⟨s, mv, σ, lv, ρ, iv, m, h1.more hn, h2, h3⟩
theorem AlS.frm {P X : Nat → Prop} {lo k n g r : Nat} {w w' : World} {row : Option Nat} (h : AlS P X lo w k n g r) (hg : w.grownBy w' row) (hr : ∀ q, row = some q → 0 < q ∧ ∃ o : Obj, w.heap[q]? = some o ∧ Frm o) : AlS P X lo w' k n g r := by
 obtain ⟨s, mv, σ, lv, ρ, iv, m, h1, h2, h3⟩ := h
 have hk : Kept (fun q => row = some q) w w' := ⟨hg.os, hg.tape, hg.output, hg.size, fun q hq hn => hg.block q hq (fun e => hn e.symm)⟩
 refine ⟨s, mv, σ, lv, ρ, iv, m, h1.kept hk (fun q ho e => ?_) (fun q hb e => ?_) (fun e => ?_), h2, h3⟩
 ·obtain ⟨_, o, h4, h5⟩ := hr q e
  exact (h1.frm h4 h5).1 ho
 ·obtain ⟨_, o, h4, h5⟩ := hr q e
  exact (h1.frm h4 h5).2 hb
 ·have := (hr 0 e).1; omega
theorem AlS.step {P X : Nat → Prop} {lo k n g r : Nat} {w : World} (h : AlS P X lo w k n g r) (hlt : ∀ q, P q → q < w.heap.size) (hn : n ≤ 900000) (t : Stp) (ht : t.Ok w) (hl : Low lo t) :
  Calls Tryz.prog 6 #[.pointer (some ⟨g, 0, none⟩), .agg t.cells.toArray] w fun e w' => e = .returned (.bool true) ∧ AlS P X lo w' k (n + 2) g r ∧ Kept (fun q => ¬ P q) w w' := by
 obtain ⟨s, mv, σ, lv, ρ, iv, m, h1, h2, h3⟩ := h
 refine (wstep_any h1 hn t ht hl).mono ?_
 rintro e w' ⟨rfl, s', mv', σ', lv', ρ', iv', m', h4, h5, h6, h7⟩
 refine ⟨rfl, ⟨s', mv', σ', lv', ρ', iv', m', h4, fun q hq ho => ?_, fun q hx hq hb => ?_⟩, h5.mono (fun q _ ho hq => h2 q hq ho)⟩
 ·rcases h6 q ho with h8 | h8
  ·exact h2 q hq h8
  ·have := hlt q hq; omega
 ·rcases h7 q hb with h8 | h8
  ·exact h3 q hx hq h8
  ·have := hlt q hq; omega
end Go.Proofs.YtjdbmjkidljhpaaGreatDoor

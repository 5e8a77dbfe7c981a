/-
 Mp: Wt, Wo.
-/
import Derived.Test.YtjdbmjkidljhpaaGreatDoorTRpe
import Derived.Test.YtjdbmjkidljhpaaGreatDoorTMo
import Derived.Test.YtjdbmjkidljhpaaGreatDoorTMm
namespace Go.Proofs.YtjdbmjkidljhpaaGreatDoor
open Go.RowKit
set_option linter.unusedVariables false
set_option linter.unusedSimpArgs false
set_option maxRecDepth 100000
theorem Stor.keptx {S : Nat → Prop} {w w' : World} {s : Nat} {mv : Value} {σ : Sg} (h : Stor w s mv σ) (hk : Kept S w w') (h1 : ∀ q, Own s mv q → ¬ S q) (h2 : ∀ e ∈ σ.es, e.xs ≠ [] → ∀ g, e.bv.ownBlock = some g → ¬ S g) : Stor w' s mv σ := by
 refine ⟨(hk.block s h.lt (h1 s (.inl rfl))).trans h.blk, ?_, h.key, fun e he => ?_⟩
 ·rcases h.map with h3 | ⟨r, c, h3, h4, h5⟩
  ·exact .inl h3
  ·exact .inr ⟨r, c, h3, (hk.block r (heap_lt h4) (h1 r (.inr h3))).trans h4, h5⟩
 ·obtain ⟨a, b⟩ := h.blob e he
  exact ⟨a.kept2 hk (h2 e he), b⟩
theorem limit_x {w : World} {s : Nat} {mv : Value} {σ : Sg} (h : Stor w s mv σ) (n : Int) : Calls Tryz.prog 17 #[.pointer (some ⟨s, 0, none⟩), .int .i64 n] w fun e w' => e = .returned (.int .i64 (limR n)) ∧ Stor w' s mv (if 0 ≤ n ∧ n ≤ 67108864 then { σ with cp := n } else σ) ∧ Kept (fun k => k = s) w w' := by
 have HM := hid_of (may_any n)
 have c1 : w.cell? ⟨s, 1, none⟩ = some (.int .i64 σ.cp) := h.cell 1
 have f1 := h.fz 1
 unfold limR
 by_cases h0 : 0 ≤ n ∧ n ≤ 67108864
 ·rw [if_pos h0, if_pos h0]
  rw [show decide (0 ≤ n ∧ n ≤ 67108864) = true from decide_eq_true h0] at HM
  have HS := hid_of (h.set (σ' := { σ with cp := n }) 1 (.int .i64 n) rfl rfl)
  clear h h0
  go_enter Tryz.func17, Tryz.ntmps17
  go_wp2_with fail
  refine (HM.out _).mono ?_
  rintro e w1 ⟨rfl, hw⟩
  have hw' := hw.symm
  subst hw'
  go_wp2
  go_ret
  exact ⟨rfl, HS.out.1, HS.out.2⟩
 ·rw [if_neg h0, if_neg h0]
  rw [show decide (0 ≤ n ∧ n ≤ 67108864) = false from decide_eq_false h0] at HM
  have HS := hid_of h
  clear h h0
  go_enter Tryz.func17, Tryz.ntmps17
  go_wp2_with fail
  refine (HM.out _).mono ?_
  rintro e w1 ⟨rfl, hw⟩
  have hw' := hw.symm
  subst hw'
  go_wp2
  go_ret
  exact ⟨rfl, HS.out, Kept.refl _ _⟩
/-- The blocks that calls of both may turn; the blocks of their blobs. -/
def OwnT (s : Nat) (mv : Value) (r : Nat) (lv : Value) (q : Nat) : Prop := Own s mv q ∨ OwnR r lv q
def Blo (σ : Sg) (ρ : Rg) (q : Nat) : Prop := (∃ e ∈ σ.es, e.xs ≠ [] ∧ e.bv.ownBlock = some q) ∨ ∃ b ∈ ρ.l, b.xs ≠ [] ∧ b.bv.ownBlock = some q
/-- The program's Store and the document's, with the same in them. -/
structure Two (w : World) (lo k n s : Nat) (mv : Value) (σ : Sg) (r : Nat) (lv : Value) (ρ : Rg) : Prop where
 st : Stor w s mv σ
 sane : Sane k n σ
 rs : Rst w r lv ρ
 alk : Alk σ.es ρ.l
 num : ρ.wd = k ∧ ρ.cp = σ.cp ∧ ρ.la = σ.sp ∧ ρ.gt = σ.gt ∧ ρ.pt = σ.pt
 laid : Laid w
 k1 : 1 ≤ k ∧ k ≤ 32
 ap : ∀ e ∈ σ.es, e.xs ≠ [] → ∀ q, e.bv.ownBlock = some q → lv.ownBlock ≠ some q
 base : ∀ q, OwnT s mv r lv q → lo ≤ q
 lo0 : 0 < lo
 cnt : ρ.l.length ≤ n
theorem Two.s0 {w : World} {lo k n s : Nat} {mv : Value} {σ : Sg} {r : Nat} {lv : Value} {ρ : Rg} (h : Two w lo k n s mv σ r lv ρ) : s ≠ 0 := fun e => by have := h.base s (.inl (.inl rfl)); have := h.lo0; omega
theorem Two.off {w : World} {lo k n s : Nat} {mv : Value} {σ : Sg} {r : Nat} {lv : Value} {ρ : Rg} (h : Two w lo k n s mv σ r lv ρ) : ∀ q, OwnR r lv q → ¬ Own s mv q := fun q hr ho => by
 rcases hr with rfl | hl
 ·rcases ho with rfl | hm
  ·have h1 := h.st.blk
   rw [h.rs.blk] at h1
   injection h1 with h1
   injection h1 with _ h2 _
   exact absurd h2 (by decide)
  ·rcases h.st.map with ⟨e, _⟩ | ⟨r', c, e, hb, _⟩
   ·rw [e] at hm; cases hm
   ·rw [e] at hm
    cases hm
    rw [h.rs.blk] at hb
    cases hb
 ·rcases h.rs.row.2 with ⟨e, _⟩ | ⟨g, cap, cur, e, _, hg, _⟩
  ·rw [e] at hl; cases hl
  ·rw [e] at hl
   have eg : g = q := Option.some.inj hl
   subst eg
   rcases ho with rfl | hm
   ·rw [h.st.blk] at hg
    cases hg
   ·rcases h.st.map with ⟨e, _⟩ | ⟨r', c, e, hb, _⟩
    ·rw [e] at hm; cases hm
    ·rw [e] at hm
     cases hm
     rw [hb] at hg
     cases hg
theorem Two.boff {w : World} {lo k n s : Nat} {mv : Value} {σ : Sg} {r : Nat} {lv : Value} {ρ : Rg} (h : Two w lo k n s mv σ r lv ρ) : ∀ q, Blo σ ρ q → ¬ OwnT s mv r lv q := fun q hb ho => by
 rcases hb with ⟨e, he, h0, hq⟩ | ⟨b, hb, h0, hq⟩
 ·have hbin := (h.st.blob e he).1
  rcases ho with ho | rfl | hl
  ·obtain ⟨o, x, hc⟩ := hbin.u8 h0 q hq
   exact h.st.no8 hc ho
  ·exact h.rs.notr hbin h0 q hq rfl
  ·exact h.ap e he h0 q hq hl
 ·have hbin := (h.rs.ok b hb).bin
  rcases ho with ho | rfl | hl
  ·obtain ⟨o, x, hc⟩ := hbin.u8 h0 q hq
   exact h.st.no8 hc ho
  ·exact (h.rs.off b hb h0 q hq).1 rfl
  ·exact (h.rs.off b hb h0 q hq).2 hl
theorem Two.blt {w : World} {lo k n s : Nat} {mv : Value} {σ : Sg} {r : Nat} {lv : Value} {ρ : Rg} (h : Two w lo k n s mv σ r lv ρ) : ∀ q, Blo σ ρ q → q < w.heap.size := fun q hb => by
 rcases hb with ⟨e, he, h0, hq⟩ | ⟨b, hb, h0, hq⟩
 ·exact (h.st.blob e he).1.below h0 q hq
 ·exact (h.rs.ok b hb).bin.below h0 q hq
theorem Two.olt {w : World} {lo k n s : Nat} {mv : Value} {σ : Sg} {r : Nat} {lv : Value} {ρ : Rg} (h : Two w lo k n s mv σ r lv ρ) : ∀ q, OwnT s mv r lv q → q < w.heap.size := fun q ho => by
 rcases ho with (rfl | hm) | rfl | hl
 ·exact h.st.lt
 ·rcases h.st.map with ⟨e, _⟩ | ⟨r', c, e, hb, _⟩
  ·rw [e] at hm; cases hm
  ·rw [e] at hm
   cases hm
   exact heap_lt hb
 ·exact h.rs.lt
 ·exact h.rs.bl q hl
theorem Two.kept {S : Nat → Prop} {w' : World} {w : World} {lo k n s : Nat} {mv : Value} {σ : Sg} {r : Nat} {lv : Value} {ρ : Rg} (h : Two w lo k n s mv σ r lv ρ) (hk : Kept S w w') (h1 : ∀ q, OwnT s mv r lv q → ¬ S q) (h2 : ∀ q, Blo σ ρ q → ¬ S q) (h3 : ¬ S 0) : Two w' lo k n s mv σ r lv ρ :=
 ⟨h.st.keptx hk (fun q hq => h1 q (.inl hq)) (fun e he h0 q hq => h2 q (.inl ⟨e, he, h0, hq⟩)), h.sane, h.rs.kept hk (fun q hq => h1 q (.inr hq)) (fun b hb h0 q hq => h2 q (.inr ⟨b, hb, h0, hq⟩)), h.alk, h.num, laid_kept h.laid hk h3, h.k1, h.ap, h.base, h.lo0, h.cnt⟩
theorem Two.same {w' : World} {w : World} {lo k n s : Nat} {mv : Value} {σ : Sg} {r : Nat} {lv : Value} {ρ : Rg} (h : Two w lo k n s mv σ r lv ρ) (hk : Kept (fun _ => False) w w') : Two w' lo k n s mv σ r lv ρ := h.kept hk (fun _ _ f => f) (fun _ _ f => f) (fun f => f)
theorem Two.more {w : World} {lo k n s : Nat} {mv : Value} {σ : Sg} {r : Nat} {lv : Value} {ρ : Rg} (h : Two w lo k n s mv σ r lv ρ) {m : Nat} (hm : n ≤ m) : Two w lo k m s mv σ r lv ρ := ⟨h.st, h.sane.more hm, h.rs, h.alk, h.num, h.laid, h.k1, h.ap, h.base, h.lo0, Nat.le_trans h.cnt hm⟩
/-- Where a call of both leads. -/
def TwoTo (w w' : World) (lo k n s : Nat) (mv : Value) (σ : Sg) (r : Nat) (lv : Value) (ρ : Rg) : Prop :=
 ∃ mv' σ' lv' ρ', Two w' lo k n s mv' σ' r lv' ρ' ∧ Kept (OwnT s mv r lv) w w' ∧ (∀ q, OwnT s mv' r lv' q → OwnT s mv r lv q ∨ w.heap.size ≤ q) ∧ ∀ q, Blo σ' ρ' q → Blo σ ρ q ∨ w.heap.size ≤ q
theorem Two.room {w : World} {lo k n s : Nat} {mv : Value} {σ : Sg} {r : Nat} {lv : Value} {ρ : Rg} (h : Two w lo k n s mv σ r lv ρ) (d : List Int) (hd : d.length = 32) (m : Nat) : roomB ρ d m = decide (usedOf σ d (List.replicate m 0) ≤ σ.cp) := by
 have h1 := h.alk.cost d hd
 have h2 := h.alk.tot
 have h3 := h.sane.us
 have h4 : costB ρ.l d = costAt σ.es d := h1.symm
 have h5 : usedOf σ d (List.replicate m 0) = σ.us + ((m : Int) + 32) - costAt σ.es d := by unfold usedOf costAt; rw [List.length_replicate]; cases look σ.es d <;> rfl
 unfold roomB
 rw [h4, h5, ← h2, h3, h.num.2.1]
 congr 1
 apply propext
 constructor <;> intro q <;> omega
theorem Two.room2 {w : World} {lo k n s : Nat} {mv : Value} {σ : Sg} {r : Nat} {lv : Value} {ρ : Rg} (h : Two w lo k n s mv σ r lv ρ) (d : List Int) (hd : d.length = 32) (xs : List Int) : roomB ρ d xs.length = decide (usedOf σ d xs ≤ σ.cp) := by
 rw [h.room d hd]
 unfold usedOf
 rw [List.length_replicate]
theorem Two.find {w : World} {lo k n s : Nat} {mv : Value} {σ : Sg} {r : Nat} {lv : Value} {ρ : Rg} (h : Two w lo k n s mv σ r lv ρ) {d : List Int} (hd : d.length = 32) {e : En} (he : look σ.es d = some e) : ∃ b, findB ρ.l d = some b ∧ b.xs = e.xs ∧ b.st = e.st := by
 have := h.alk.lk d hd
 rw [he] at this
 cases hf : findB ρ.l d with
 | none => rw [hf] at this; cases this
 | some b =>
  rw [hf] at this
  simp at this
  exact ⟨b, rfl, this.1.symm, this.2.symm⟩
theorem Two.nofind {w : World} {lo k n s : Nat} {mv : Value} {σ : Sg} {r : Nat} {lv : Value} {ρ : Rg} (h : Two w lo k n s mv σ r lv ρ) {d : List Int} (hd : d.length = 32) (he : look σ.es d = none) : findB ρ.l d = none := by
 have := h.alk.some d hd
 rw [he] at this
 cases hf : findB ρ.l d with
 | none => rfl
 | some b => rw [hf] at this; cases this
/-- Numbers alone have changed, in both. -/
theorem Two.nums {w1 w3 : World} {w : World} {lo k n s : Nat} {mv : Value} {σ : Sg} {r : Nat} {lv : Value} {ρ : Rg} (h : Two w lo k n s mv σ r lv ρ) {m : Nat} {σ' : Sg} {ρ' : Rg} (hst : Stor w1 s mv σ') (hk1 : Kept (Own s mv) w w1) (hes : σ'.es = σ.es) (hl : ρ'.l = ρ.l) (hsane : Sane k m σ') (hnum : ρ'.wd = k ∧ ρ'.cp = σ'.cp ∧ ρ'.la = σ'.sp ∧ ρ'.gt = σ'.gt ∧ ρ'.pt = σ'.pt) (hm : n ≤ m)
  (hrs : Rst w3 r lv ρ') (hk3 : Kept (OwnR r lv) w1 w3) : TwoTo w w3 lo k m s mv σ r lv ρ := by
 have hL1 := laid_kept h.laid hk1 (fun e => by have := h.base 0 (.inl e); have := h.lo0; omega)
 have hL3 := laid_kept hL1 hk3 (fun e => by have := h.base 0 (.inr e); have := h.lo0; omega)
 have hb : ∀ q, Blo σ' ρ' q → Blo σ ρ q := fun q hq => by
  rcases hq with ⟨e, he, r1⟩ | ⟨b, hb, r1⟩
  ·rw [hes] at he; exact .inl ⟨e, he, r1⟩
  ·rw [hl] at hb; exact .inr ⟨b, hb, r1⟩
 refine ⟨mv, σ', lv, ρ', ⟨hst.keptx hk3 (fun q hq hr => h.off q hr hq) (fun e he h0 q hq hr => h.boff q (hb q (.inl ⟨e, he, h0, hq⟩)) (.inr hr)), hsane, hrs, by rw [hes, hl]; exact h.alk, hnum, hL3, h.k1, by rw [hes]; exact h.ap, h.base, h.lo0, by rw [hl]; exact Nat.le_trans h.cnt hm⟩, ?_, fun q hq => .inl hq, fun q hq => .inl (hb q hq)⟩
 exact (hk1.mono (fun q _ e => .inl e)).trans (hk3.mono (fun q _ e => .inr e))
/-- Something was laid in both. -/
theorem Two.laids {w1 w2 w3 : World} {w : World} {lo k n s : Nat} {mv : Value} {σ : Sg} {r : Nat} {lv : Value} {ρ : Rg} (h : Two w lo k n s mv σ r lv ρ) {m : Nat} {σ0 σ' : Sg} {ρ0 : Rg} {d xs : List Int} {mv' : Value} {B : Nat} (hd : d.length = 32) (hB : w.heap.size ≤ B) (hl : LayOk B σ0 σ' d xs) (hes : σ0.es = σ.es) (hrl : ρ0.l = ρ.l) (hn0 : ρ0.wd = k ∧ ρ0.cp = σ0.cp ∧ ρ0.la = σ0.sp ∧ ρ0.gt = σ0.gt ∧ ρ0.pt = σ0.pt)
  (hst : Stor w1 s mv' σ') (hk1 : Kept (Own s mv) w w1) (hmv : mv' = mv ∨ ∃ q, mv' = .map (some q) ∧ w.heap.size ≤ q) (hsane : Sane k m σ') (hm : n < m) (hk2 : Kept (fun _ => False) w1 w2) (hlr : LayR w2 w3 r lv ρ0 d xs) : TwoTo w w3 lo k m s mv σ r lv ρ := by
 obtain ⟨bv, born, hbv, rfl⟩ := hl
 obtain ⟨lv', bv', hrs, hk3, hlv, hbv'⟩ := hlr
 have hs1 := hk1.size
 have hs2 := hk2.size
 have hlo : lo ≤ w.heap.size := by have := h.base s (.inl (.inl rfl)); have := h.st.lt; omega
 have hL1 := laid_kept h.laid hk1 (fun e => by have := h.base 0 (.inl e); have := h.lo0; omega)
 have hL3 := laid_kept (laid_kept hL1 hk2 (fun f => f)) hk3 (fun e => by have := h.base 0 (.inr e); have := h.lo0; omega)
 have hst2 := hst.keptx hk2 (fun _ _ f => f) (fun _ _ _ _ _ f => f)
 have hmv2 : ∀ q, Own s mv' q → Own s mv q ∨ w.heap.size ≤ q := fun q hq => by
  rcases hq with rfl | hq
  ·exact .inl (.inl rfl)
  ·rcases hmv with e | ⟨q', e, hq'⟩
   ·rw [e] at hq; exact .inl (.inr hq)
   ·rw [e] at hq; cases hq; exact .inr hq'
 have hlv2 : ∀ q, OwnR r lv' q → OwnR r lv q ∨ w.heap.size ≤ q := fun q hq => by
  rcases hq with rfl | hq
  ·exact .inl (.inl rfl)
  ·rcases hlv with e | e
   ·rw [e] at hq; exact .inl (.inr hq)
   ·have := e q hq; exact .inr (by omega)
 have hE : ∀ e ∈ lays σ0.es ⟨d, bv, xs, σ0.sp + 1, born⟩, e ∈ σ.es ∨ ∀ q, e.bv.ownBlock = some q → w.heap.size ≤ q := fun e he => by
  rcases lays_mem _ _ _ he with he | ⟨b, rfl⟩
  ·rw [hes] at he; exact .inl he
  ·exact .inr (fun q hq => by have := hbv q hq; omega)
 have hR : ∀ b ∈ layB ρ0.l ⟨d, bv', xs, ρ0.la + 1⟩, b ∈ ρ.l ∨ ∀ q, b.bv.ownBlock = some q → w.heap.size ≤ q := fun b hb => by
  rcases layB_mem _ _ _ hb with hb | rfl
  ·rw [hrl] at hb; exact .inl hb
  ·exact .inr (fun q hq => by have := hbv' q hq; omega)
 have hoR : ∀ q, OwnR r lv q → q < w.heap.size := fun q hq => h.olt q (.inr hq)
 have hst3 := hst2.keptx hk3 (fun q hq hr => by
  rcases hmv2 q hq with hq | hq
  ·exact h.off q hr hq
  ·have := hoR q hr; omega) (fun e he h0 q hq hr => by
  rcases hE e he with he | he
  ·exact h.boff q (.inl ⟨e, he, h0, hq⟩) (.inr hr)
  ·have := he q hq; have := hoR q hr; omega)
 refine ⟨mv', _, lv', _, ⟨hst3, hsane, hrs, ?_, ?_, hL3, h.k1, fun e he h0 q hq hl => ?_, fun q hq => ?_, h.lo0, ?_⟩, ?_, fun q hq => ?_, fun q hq => ?_⟩
 ·show Alk (lays σ0.es _) (layB ρ0.l _)
  rw [hes, hrl]
  exact h.alk.lay _ _ hd rfl rfl (by show ρ0.la + 1 = σ0.sp + 1; rw [hn0.2.2.1])
 ·exact ⟨hn0.1, hn0.2.1, by show ρ0.la + 1 = σ0.sp + 1; rw [hn0.2.2.1], hn0.2.2.2.1, hn0.2.2.2.2⟩
 ·rcases hE e he with he' | he'
  ·rcases hlv with e2 | e2
   ·rw [e2] at hl; exact h.ap e he' h0 q hq hl
   ·have h5 := e2 q hl
    have h6 := h.blt q (.inl ⟨e, he', h0, hq⟩)
    omega
  ·have h5 := he' q hq
   have h6 := hst2.keptx hk3 (S := OwnR r lv) (fun q hq hr => by
    rcases hmv2 q hq with hq | hq
    ·exact h.off q hr hq
    ·have := hoR q hr; omega) (fun e he h0 q hq hr => by
    rcases hE e he with he | he
    ·exact h.boff q (.inl ⟨e, he, h0, hq⟩) (.inr hr)
    ·have := he q hq; have := hoR q hr; omega)
   have h7 := (hst.blob e he).1.below h0 q hq
   rcases hlv with e2 | e2
   ·rw [e2] at hl
    have := hoR q (.inr hl)
    omega
   ·have := e2 q hl; omega
 ·rcases hq with hq | hq
  ·rcases hmv2 q hq with hq | hq
   ·exact h.base q (.inl hq)
   ·omega
  ·rcases hlv2 q hq with hq | hq
   ·exact h.base q (.inr hq)
   ·omega
 ·show (layB ρ0.l _).length ≤ m
  rw [lenB_lay, hrl]
  have := h.cnt
  split <;> omega
 ·exact ((hk1.mono (fun q _ e => .inl e)).trans (hk2.mono (fun _ _ f => f.elim))).trans (hk3.mono (fun q _ e => .inr e))
 ·rcases hq with hq | hq
  ·rcases hmv2 q hq with hq | hq
   ·exact .inl (.inl hq)
   ·exact .inr hq
  ·rcases hlv2 q hq with hq | hq
   ·exact .inl (.inr hq)
   ·exact .inr hq
 ·rcases hq with ⟨e, he, h0, hq⟩ | ⟨b, hb, h0, hq⟩
  ·rcases hE e he with he | he
   ·exact .inl (.inl ⟨e, he, h0, hq⟩)
   ·exact .inr (he q hq)
  ·rcases hR b hb with hb | hb
   ·exact .inl (.inr ⟨b, hb, h0, hq⟩)
   ·exact .inr (hb q hq)
end Go.Proofs.YtjdbmjkidljhpaaGreatDoor
namespace Go.Proofs.YtjdbmjkidljhpaaGreatDoor
open Go.RowKit
set_option linter.unusedVariables false
set_option linter.unusedSimpArgs false
set_option maxRecDepth 100000
theorem Stor.keys' {w : World} {s : Nat} {mv : Value} {σ : Sg} (h : Stor w s mv σ) : (σ.es.map En.k).Nodup := by
 rcases h.map with ⟨_, h1⟩ | ⟨r, c, _, _, _, h3⟩
 ·rw [h1]; exact List.nodup_nil
 ·exact h3.2.2
theorem drops_none : ∀ (es : List En) (d : List Int), look es d = none → drops es d = es
 | [], _, _ => rfl
 | e :: es, d, h => by
  unfold look at h
  by_cases hk : d = e.k
  ·rw [if_pos hk] at h; cases h
  ·rw [if_neg hk] at h
   rw [drops, if_neg hk, drops_none es d h]
theorem Two.nots {w : World} {lo k n s : Nat} {mv : Value} {σ : Sg} {r : Nat} {lv : Value} {ρ : Rg} (h : Two w lo k n s mv σ r lv ρ) {v : Value} {xs : List Int} (hx : BIn w v xs) : xs ≠ [] → ∀ g, v.ownBlock = some g → g ≠ s := fun h0 g hg e => by
 obtain ⟨o, x, hc⟩ := hx.u8 h0 g hg
 exact h.st.no8 hc (.inl e)
theorem Two.ref1 {w1 w2 : World} {w : World} {lo k n s : Nat} {mv : Value} {σ : Sg} {r : Nat} {lv : Value} {ρ : Rg} (h : Two w lo k n s mv σ r lv ρ) (hk1 : Kept (Own s mv) w w1) (hk2 : Kept (fun _ => False) w1 w2) : Rst w2 r lv ρ :=
 (h.rs.kept hk1 (fun q hq ho => h.off q hq ho) (fun b hb h0 q hq ho => h.boff q (.inr ⟨b, hb, h0, hq⟩) (.inl ho))).same hk2
theorem kept_s2 {s : Nat} {mv : Value} {w w' : World} (h : Kept (fun k => k = s) w w') : Kept (Own s mv) w w' := h.mono (fun _ _ e => .inl e)
theorem kept_r2 {r : Nat} {lv : Value} {w w1 w' : World} (h1 : Kept (fun _ => False) w w1) (h : Kept (fun k => k = r) w1 w') : Kept (OwnR r lv) w w' := (h1.mono (fun _ _ f => f.elim)).trans (h.mono (fun _ _ e => .inl e))
theorem LayR.keptR {w w' : World} {r : Nat} {lv : Value} {ρ : Rg} {d xs : List Int} (h : LayR w w' r lv ρ d xs) : Kept (OwnR r lv) w w' := by
 obtain ⟨_, _, _, hk, _⟩ := h
 exact hk
theorem put_two {w : World} {lo k n s : Nat} {mv : Value} {σ : Sg} {r : Nat} {lv : Value} {ρ : Rg} (h : Two w lo k n s mv σ r lv ρ) (hn : n ≤ 900000) (xs : List Int) (hxr : ∀ x ∈ xs, 0 ≤ x ∧ x < 256) (hl : xs.length ≤ 1048576) (bv : Value) (hb : BIn w bv xs) :
  ∃ (d : List Int) (q : Int), d.length = 32 ∧ Calls Tryz.prog 26 #[.pointer (some ⟨s, 0, none⟩), bv] w fun e w1 => e = .returned (.tuple #[dv d, .int .i64 q]) ∧ Kept (Own s mv) w w1 ∧
   ∀ w2 bv2, Kept (fun _ => False) w1 w2 → BIn w2 bv2 xs → Calls Tryz.prog 34 #[.pointer (some ⟨r, 0, none⟩), bv2] w2 fun e w3 => e = .returned (.tuple #[dv d, .int .i64 q]) ∧ Kept (OwnR r lv) w2 w3 ∧ TwoTo w w3 lo k (n + 2) s mv σ r lv ρ := by
 have hS := h.sane
 have hd := frontOf_len k xs h.k1.2
 have hp := hS.pt
 have hsp := hS.sp
 have hu0 := hS.us0
 have hu2 := hS.top
 have hc := h.cnt
 have hnum := h.num
 have hz : (zeros32 : List Int).length = 32 := rfl
 have fin : ∀ {w1 w2 w3 : World}, Stor w1 s mv σ.put1 → Kept (fun k => k = s) w w1 → Kept (fun _ => False) w1 w2 → Rst w3 r lv ρ.put1 → Kept (fun q => q = r) w2 w3 → TwoTo w w3 lo k (n + 2) s mv σ r lv ρ := fun hst hk1 hk2 hrs hk3 =>
  h.nums (σ' := σ.put1) (ρ' := ρ.put1) hst (kept_s2 hk1) rfl rfl (hS.put1.more (by omega)) ⟨hnum.1, hnum.2.1, hnum.2.2.1, hnum.2.2.2.1, by show ρ.pt + 1 = σ.pt + 1; rw [hnum.2.2.2.2]⟩ (by omega) hrs (kept_r2 hk2 hk3)
 have pre : ∀ {w1 w2 : World}, Kept (Own s mv) w w1 → Kept (fun _ => False) w1 w2 → Rst w2 r lv ρ := fun a b => h.ref1 a b
 have hpt0 : 0 ≤ ρ.pt := by rw [hnum.2.2.2.2]; exact hp.1
 have hpt1 : ρ.pt ≤ 1099511627776 := by rw [hnum.2.2.2.2]; omega
 have hla0 : 0 ≤ ρ.la := by rw [hnum.2.2.1]; exact hsp.1
 have hla1 : ρ.la ≤ 1099511627776 := by rw [hnum.2.2.1]; omega
 cases he : look σ.es (frontOf k xs) with
 | none =>
  have hf := h.nofind hd he
  have hr := h.room2 _ hd xs
  by_cases hov : usedOf σ (frontOf k xs) xs ≤ σ.cp
  ·rw [decide_eq_true hov] at hr
   refine ⟨_, 0, hd, (put_ok0 h.st h.laid h.s0 k hS.wd h.k1.1 h.k1.2 bv xs hb hxr hl (h.nots hb) hp.1 (by omega) he hu0 (by omega) hsp.1 (by omega) hov).mono fun e w1 ⟨he1, mv', σ', hlo, hst, hk1, hmv⟩ => ?_⟩
   refine ⟨he1, hk1, fun w2 bv2 hk2 hb2 => ?_⟩
   refine (putr_ok0 (pre hk1 hk2) k hnum.1 h.k1.1 h.k1.2 bv2 xs hb2 hxr hl hpt0 hpt1 hla0 hla1 (by omega) hf hr).mono fun e w3 ⟨he3, hlr⟩ => ⟨he3, hlr.keptR, ?_⟩
   exact h.laids (ρ0 := ρ.put1) (m := n + 2) hd (by omega) hlo rfl rfl ⟨hnum.1, hnum.2.1, hnum.2.2.1, hnum.2.2.2.1, by show ρ.pt + 1 = σ.pt + 1; rw [hnum.2.2.2.2]⟩ hst hk1 hmv ((hS.put1.lay hlo (by exact hov)).more (by omega)) (by omega) hk2 hlr
  ·rw [decide_eq_false hov] at hr
   refine ⟨_, 43, hz, (put_full0 h.st h.laid h.s0 k hS.wd h.k1.1 h.k1.2 bv xs hb hxr hl (h.nots hb) hp.1 (by omega) he hu0 (by omega) (by omega)).mono fun e w1 ⟨he1, hst, hk1⟩ => ?_⟩
   refine ⟨he1, kept_s2 hk1, fun w2 bv2 hk2 hb2 => ?_⟩
   exact (putr_full0 (pre (kept_s2 hk1) hk2) k hnum.1 h.k1.1 h.k1.2 bv2 xs hb2 hxr hl hpt0 hpt1 hla0 hla1 (by omega) hf hr).mono fun e w3 ⟨he3, hrs, hk3⟩ => ⟨he3, hk3.mono (fun _ _ e => .inl e), fin hst hk1 hk2 hrs hk3⟩
 | some e0 =>
  obtain ⟨b, hf, hbx, hbs⟩ := h.find hd he
  have hr := h.room2 _ hd xs
  by_cases hex : e0.xs = xs
  ·refine ⟨_, 0, hd, (put_same h.st h.laid h.s0 k hS.wd h.k1.1 h.k1.2 bv xs hb hxr hl (h.nots hb) hp.1 (by omega) e0 he hex).mono fun e w1 ⟨he1, hst, hk1⟩ => ?_⟩
   refine ⟨he1, kept_s2 hk1, fun w2 bv2 hk2 hb2 => ?_⟩
   exact (putr_same (pre (kept_s2 hk1) hk2) k hnum.1 h.k1.1 h.k1.2 bv2 xs hb2 hxr hl hpt0 hpt1 hla0 hla1 (by omega) b hf (by rw [hbx]; exact hex)).mono fun e w3 ⟨he3, hrs, hk3⟩ => ⟨he3, hk3.mono (fun _ _ e => .inl e), fin hst hk1 hk2 hrs hk3⟩
  ·have hq : b.xs ≠ xs := by rw [hbx]; exact hex
   by_cases hw : frontOf k e0.xs = frontOf k xs
   ·have hwh : wholeB k σ.es (frontOf k xs) = true := by unfold wholeB; rw [he]; exact decide_eq_true hw
    refine ⟨_, 44, hz, (put_clash h.st h.laid h.s0 k hS.wd h.k1.1 h.k1.2 bv xs hb hxr hl (h.nots hb) hp.1 (by omega) e0 he hex hwh).mono fun e w1 ⟨he1, hst, hk1⟩ => ?_⟩
    refine ⟨he1, kept_s2 hk1, fun w2 bv2 hk2 hb2 => ?_⟩
    exact (putr_clash (pre (kept_s2 hk1) hk2) k hnum.1 h.k1.1 h.k1.2 bv2 xs hb2 hxr hl hpt0 hpt1 hla0 hla1 (by omega) b hf hq (by rw [hbx]; exact hw)).mono fun e w3 ⟨he3, hrs, hk3⟩ => ⟨he3, hk3.mono (fun _ _ e => .inl e), fin hst hk1 hk2 hrs hk3⟩
   ·have hwh : wholeB k σ.es (frontOf k xs) = false := by unfold wholeB; rw [he]; exact decide_eq_false hw
    have hw' : frontOf k b.xs ≠ frontOf k xs := by rw [hbx]; exact hw
    by_cases hov : usedOf σ (frontOf k xs) xs ≤ σ.cp
    ·rw [decide_eq_true hov] at hr
     refine ⟨_, 0, hd, (put_ok1 h.st h.laid h.s0 k hS.wd h.k1.1 h.k1.2 bv xs hb hxr hl (h.nots hb) hp.1 (by omega) e0 he hex hwh hu0 (by omega) hsp.1 (by omega) hov).mono fun e w1 ⟨he1, mv', σ', hlo, hst, hk1, hmv⟩ => ?_⟩
     refine ⟨he1, hk1, fun w2 bv2 hk2 hb2 => ?_⟩
     refine (putr_ok1 (pre hk1 hk2) k hnum.1 h.k1.1 h.k1.2 bv2 xs hb2 hxr hl hpt0 hpt1 hla0 hla1 (by omega) b hf hq hw' hr).mono fun e w3 ⟨he3, hlr⟩ => ⟨he3, hlr.keptR, ?_⟩
     exact h.laids (ρ0 := ρ.put1) (m := n + 2) hd (by omega) hlo rfl rfl ⟨hnum.1, hnum.2.1, hnum.2.2.1, hnum.2.2.2.1, by show ρ.pt + 1 = σ.pt + 1; rw [hnum.2.2.2.2]⟩ hst hk1 hmv ((hS.put1.lay hlo (by exact hov)).more (by omega)) (by omega) hk2 hlr
    ·rw [decide_eq_false hov] at hr
     refine ⟨_, 43, hz, (put_full1 h.st h.laid h.s0 k hS.wd h.k1.1 h.k1.2 bv xs hb hxr hl (h.nots hb) hp.1 (by omega) e0 he hex hwh hu0 (by omega) (by omega)).mono fun e w1 ⟨he1, hst, hk1⟩ => ?_⟩
     refine ⟨he1, kept_s2 hk1, fun w2 bv2 hk2 hb2 => ?_⟩
     exact (putr_full1 (pre (kept_s2 hk1) hk2) k hnum.1 h.k1.1 h.k1.2 bv2 xs hb2 hxr hl hpt0 hpt1 hla0 hla1 (by omega) b hf hq hw' hr).mono fun e w3 ⟨he3, hrs, hk3⟩ => ⟨he3, hk3.mono (fun _ _ e => .inl e), fin hst hk1 hk2 hrs hk3⟩
theorem plant_two {w : World} {lo k n s : Nat} {mv : Value} {σ : Sg} {r : Nat} {lv : Value} {ρ : Rg} (h : Two w lo k n s mv σ r lv ρ) (hn : n ≤ 900000) (d : List Int) (hd : d.length = 32) (hdr : ∀ x ∈ d, 0 ≤ x ∧ x < 256) (xs : List Int) (hxr : ∀ x ∈ xs, 0 ≤ x ∧ x < 256) (hl : xs.length ≤ 1048576) (bv : Value) (hb : BIn w bv xs) :
  ∃ q : Int, Calls Tryz.prog 35 #[.pointer (some ⟨s, 0, none⟩), dv d, bv] w fun e w1 => e = .returned (.int .i64 q) ∧ Kept (Own s mv) w w1 ∧
   ∀ w2 bv2, Kept (fun _ => False) w1 w2 → BIn w2 bv2 xs → Calls Tryz.prog 36 #[.pointer (some ⟨r, 0, none⟩), dv d, bv2] w2 fun e w3 => e = .returned (.int .i64 q) ∧ TwoTo w w3 lo k (n + 2) s mv σ r lv ρ := by
 have hS := h.sane
 have hsp := hS.sp
 have hu0 := hS.us0
 have hu2 := hS.top
 have hc := h.cnt
 have hnum := h.num
 have hla0 : 0 ≤ ρ.la := by rw [hnum.2.2.1]; exact hsp.1
 have hla1 : ρ.la ≤ 1099511627776 := by rw [hnum.2.2.1]; omega
 have hwd : ρ.wd = σ.wd := by rw [hnum.1, hS.wd]
 have hr := h.room2 d hd xs
 have fin : ∀ {w1 w2 w3 : World}, Kept (fun _ => False) w w1 → Kept (fun _ => False) w1 w2 → Rst w3 r lv ρ → Kept (fun _ => False) w2 w3 → TwoTo w w3 lo k (n + 2) s mv σ r lv ρ := fun hk1 hk2 hrs hk3 =>
  h.nums (σ' := σ) (ρ' := ρ) (h.st.kept hk1 (fun _ _ f => f)) (hk1.mono (fun _ _ f => f.elim)) rfl rfl (hS.more (by omega)) hnum (by omega) hrs ((hk2.trans hk3).mono (fun _ _ f => f.elim))
 cases hf : fitsL d σ.wd with
 | false =>
  refine ⟨1, (plant_arg h.st d hd bv xs hb (by omega) hf).mono fun e w1 ⟨he1, hk1⟩ => ⟨he1, hk1.mono (fun _ _ f => f.elim), fun w2 bv2 hk2 hb2 => ?_⟩⟩
  exact (plantr_arg (h.ref1 (hk1.mono (fun _ _ f => f.elim)) hk2) d hd hdr bv2 xs hb2 hxr hl hla0 hla1 (by omega) (by rw [hwd]; exact hf)).mono fun e w3 ⟨he3, hrs, hk3⟩ => ⟨he3, fin hk1 hk2 hrs hk3⟩
 | true =>
  by_cases hov : usedOf σ d xs ≤ σ.cp
  ·rw [decide_eq_true hov] at hr
   refine ⟨0, (plant_ok h.st d hd bv xs hb (by omega) hf hxr hdr hl hu0 (by omega) hsp.1 (by omega) hov (h.nots hb)).mono fun e w1 ⟨he1, mv', σ', hlo, hst, hk1, hmv⟩ => ⟨he1, hk1, fun w2 bv2 hk2 hb2 => ?_⟩⟩
   refine (plantr_ok (h.ref1 hk1 hk2) d hd hdr bv2 xs hb2 hxr hl hla0 hla1 (by omega) (by rw [hwd]; exact hf) hr).mono fun e w3 ⟨he3, hlr⟩ => ⟨he3, ?_⟩
   exact h.laids (ρ0 := ρ) (m := n + 2) hd (by omega) hlo rfl rfl hnum hst hk1 hmv ((hS.lay hlo hov).more (by omega)) (by omega) hk2 hlr
  ·rw [decide_eq_false hov] at hr
   refine ⟨43, (plant_full h.st d hd bv xs hb (by omega) hf hxr hdr hl hu0 (by omega) hsp.1 (by omega) (by omega) (h.nots hb)).mono fun e w1 ⟨he1, hk1⟩ => ⟨he1, hk1.mono (fun _ _ f => f.elim), fun w2 bv2 hk2 hb2 => ?_⟩⟩
   exact (plantr_full (h.ref1 (hk1.mono (fun _ _ f => f.elim)) hk2) d hd hdr bv2 xs hb2 hxr hl hla0 hla1 (by omega) (by rw [hwd]; exact hf) hr).mono fun e w3 ⟨he3, hrs, hk3⟩ => ⟨he3, fin hk1 hk2 hrs hk3⟩
theorem get_two {w : World} {lo k n s : Nat} {mv : Value} {σ : Sg} {r : Nat} {lv : Value} {ρ : Rg} (h : Two w lo k n s mv σ r lv ρ) (hn : n ≤ 900000) (d : List Int) (hd : d.length = 32) :
  ∃ (q : Int) (xs : List Int), (∀ x ∈ xs, 0 ≤ x ∧ x < 256) ∧ xs.length ≤ 1048576 ∧ Calls Tryz.prog 27 #[.pointer (some ⟨s, 0, none⟩), dv d] w fun e w1 => ∃ v, e = .returned (.tuple #[v, .int .i64 q]) ∧ BIn w1 v xs ∧ (∀ g, v.ownBlock = some g → w.heap.size ≤ g) ∧ Kept (fun q => q = s) w w1 ∧
   ∀ w2, Kept (fun _ => False) w1 w2 → Calls Tryz.prog 40 #[.pointer (some ⟨r, 0, none⟩), dv d] w2 fun e w3 => ∃ v2, e = .returned (.tuple #[v2, .int .i64 q]) ∧ BIn w3 v2 xs ∧ Kept (fun q => q = r) w2 w3 ∧ TwoTo w w3 lo k (n + 2) s mv σ r lv ρ := by
 have hS := h.sane
 have hg := hS.gt
 have hnum := h.num
 have hg0 : 0 ≤ ρ.gt := by rw [hnum.2.2.2.1]; exact hg.1
 have hg1 : ρ.gt ≤ 1099511627776 := by rw [hnum.2.2.2.1]; omega
 have fin : ∀ {w1 w2 w3 : World}, Stor w1 s mv σ.get1 → Kept (fun k => k = s) w w1 → Kept (fun _ => False) w1 w2 → Rst w3 r lv ρ.get1 → Kept (fun q => q = r) w2 w3 → TwoTo w w3 lo k (n + 2) s mv σ r lv ρ := fun hst hk1 hk2 hrs hk3 =>
  h.nums (σ' := σ.get1) (ρ' := ρ.get1) hst (kept_s2 hk1) rfl rfl (hS.get1.more (by omega)) ⟨hnum.1, hnum.2.1, hnum.2.2.1, by show ρ.gt + 1 = σ.gt + 1; rw [hnum.2.2.2.1], hnum.2.2.2.2⟩ (by omega) hrs (kept_r2 hk2 hk3)
 cases he : look σ.es d with
 | none =>
  have hf := h.nofind hd he
  have hq : getR k ρ.l d = 41 := by unfold getR; rw [hf]
  have hx : gotB k ρ.l d = [] := by unfold gotB; rw [hq]; rfl
  refine ⟨41, [], fun x hx => (by cases hx), Nat.zero_le _, (get_missing h.st h.laid h.s0 k hS.wd h.k1.1 h.k1.2 d hd hg.1 (by omega) he).mono fun e w1 ⟨he1, hst, hk1⟩ => ⟨_, he1, ⟨none, 0, rfl, Nat.le_refl _, .inl rfl⟩, fun g hg => (by cases hg), hk1, fun w2 hk2 => ?_⟩⟩
  refine (get_ref (h.ref1 (kept_s2 hk1) hk2) k hnum.1 h.k1.1 h.k1.2 d hd hg0 hg1).mono fun e w3 ⟨v2, he3, hb3, hrs, hk3⟩ => ?_
  rw [hq] at he3
  rw [hx] at hb3
  exact ⟨v2, he3, hb3, hk3, fin hst hk1 hk2 hrs hk3⟩
 | some e0 =>
  obtain ⟨b, hf, hbx, hbs⟩ := h.find hd he
  by_cases hw : frontOf k e0.xs = d
  ·have hwh : wholeB k σ.es d = true := by unfold wholeB; rw [he]; exact decide_eq_true hw
   have hq : getR k ρ.l d = 0 := by unfold getR; rw [hf]; show (if frontOf k b.xs = d then (0 : Int) else 42) = 0; rw [hbx, if_pos hw]
   have hx : gotB k ρ.l d = rawX σ.es d := by unfold gotB rawB rawX; rw [hq, hf, he, if_pos rfl]; exact hbx
   have hbl := h.st.blob e0 (look_mem _ _ _ he).1
   refine ⟨0, rawX σ.es d, ?_, ?_, (get_ok h.st h.laid h.s0 k hS.wd h.k1.1 h.k1.2 d hd hg.1 (by omega) hwh).mono fun e w1 ⟨v, he1, hb1, hfr, hst, hk1⟩ => ⟨v, he1, hb1, hfr, hk1, fun w2 hk2 => ?_⟩⟩
   ·unfold rawX; rw [he]; exact hbl.2.1
   ·unfold rawX; rw [he]; exact hbl.2.2.1
   ·refine (get_ref (h.ref1 (kept_s2 hk1) hk2) k hnum.1 h.k1.1 h.k1.2 d hd hg0 hg1).mono fun e w3 ⟨v2, he3, hb3, hrs, hk3⟩ => ?_
    rw [hq] at he3
    rw [hx] at hb3
    exact ⟨v2, he3, hb3, hk3, fin hst hk1 hk2 hrs hk3⟩
  ·have hwh : wholeB k σ.es d = false := by unfold wholeB; rw [he]; exact decide_eq_false hw
   have hq : getR k ρ.l d = 42 := by unfold getR; rw [hf]; show (if frontOf k b.xs = d then (0 : Int) else 42) = 42; rw [hbx, if_neg hw]
   have hx : gotB k ρ.l d = [] := by unfold gotB; rw [hq]; rfl
   refine ⟨42, [], fun x hx => (by cases hx), Nat.zero_le _, (get_corrupt h.st h.laid h.s0 k hS.wd h.k1.1 h.k1.2 d hd hg.1 (by omega) (by rw [he]; rfl) hwh).mono fun e w1 ⟨he1, hst, hk1⟩ => ⟨_, he1, ⟨none, 0, rfl, Nat.le_refl _, .inl rfl⟩, fun g hg => (by cases hg), hk1, fun w2 hk2 => ?_⟩⟩
   refine (get_ref (h.ref1 (kept_s2 hk1) hk2) k hnum.1 h.k1.1 h.k1.2 d hd hg0 hg1).mono fun e w3 ⟨v2, he3, hb3, hrs, hk3⟩ => ?_
   rw [hq] at he3
   rw [hx] at hb3
   exact ⟨v2, he3, hb3, hk3, fin hst hk1 hk2 hrs hk3⟩
theorem evict_two {w : World} {lo k n s : Nat} {mv : Value} {σ : Sg} {r : Nat} {lv : Value} {ρ : Rg} (h : Two w lo k n s mv σ r lv ρ) (hn : n ≤ 900000) (d : List Int) (hd : d.length = 32) :
  ∃ q : Bool, Calls Tryz.prog 47 #[.pointer (some ⟨s, 0, none⟩), dv d] w fun e w1 => e = .returned (.bool q) ∧ Kept (Own s mv) w w1 ∧
   ∀ w2, Kept (fun _ => False) w1 w2 → Calls Tryz.prog 48 #[.pointer (some ⟨r, 0, none⟩), dv d] w2 fun e w3 => e = .returned (.bool q) ∧ TwoTo w w3 lo k (n + 2) s mv σ r lv ρ := by
 have hS := h.sane
 have hu0 := hS.us0
 have hu2 := hS.top
 have hnum := h.num
 have fin : ∀ {w1 w2 w3 : World} {σ' : Sg}, σ'.es = drops σ.es d → Sane k (n + 2) σ' → (ρ.wd = k ∧ ρ.cp = σ'.cp ∧ ρ.la = σ'.sp ∧ ρ.gt = σ'.gt ∧ ρ.pt = σ'.pt) → Stor w1 s mv σ' → Kept (Own s mv) w w1 → Kept (fun _ => False) w1 w2 → DelR w2 w3 r lv ρ d → TwoTo w w3 lo k (n + 2) s mv σ r lv ρ := fun {w1 w2 w3 σ'} hes hsane hnm hst hk1 hk2 hdr => by
  obtain ⟨lv', hrs, hk3, hlv⟩ := hdr
  have hs1 := hk1.size
  have hs2 := hk2.size
  have hL1 := laid_kept h.laid hk1 (fun e => by have := h.base 0 (.inl e); have := h.lo0; omega)
  have hL3 := laid_kept (laid_kept hL1 hk2 (fun f => f)) hk3 (fun e => by have := h.base 0 (.inr e); have := h.lo0; omega)
  have hlo : lo ≤ w.heap.size := by have := h.base s (.inl (.inl rfl)); have := h.st.lt; omega
  have hE : ∀ e ∈ σ'.es, e ∈ σ.es := fun e he => by rw [hes] at he; exact drops_mem _ _ _ he
  have hR : ∀ b ∈ delB ρ.l d, b ∈ ρ.l := fun b hb => (delB_sub _ _).subset hb
  have hlv2 : ∀ q, OwnR r lv' q → OwnR r lv q ∨ w.heap.size ≤ q := fun q hq => by
   rcases hq with rfl | hq
   ·exact .inl (.inl rfl)
   ·rcases hlv with e | e
    ·rw [e] at hq; exact .inl (.inr hq)
    ·have := e q hq; exact .inr (by omega)
  have hst3 := (hst.keptx hk2 (fun _ _ f => f) (fun _ _ _ _ _ f => f)).keptx hk3 (fun q hq hr => h.off q hr hq) (fun e he h0 q hq hr => h.boff q (.inl ⟨e, hE e he, h0, hq⟩) (.inr hr))
  refine ⟨mv, σ', lv', _, ⟨hst3, hsane, hrs, ?_, hnm, hL3, h.k1, fun e he h0 q hq hl => ?_, fun q hq => ?_, h.lo0, ?_⟩, ?_, fun q hq => ?_, fun q hq => ?_⟩
  ·rw [hes]
   exact h.alk.del h.st.keys' d hd
  ·rcases hlv with e2 | e2
   ·rw [e2] at hl; exact h.ap e (hE e he) h0 q hq hl
   ·have h5 := e2 q hl
    have h6 := h.blt q (.inl ⟨e, hE e he, h0, hq⟩)
    omega
  ·rcases hq with hq | hq
   ·exact h.base q (.inl hq)
   ·rcases hlv2 q hq with hq | hq
    ·exact h.base q (.inr hq)
    ·omega
  ·have h1 := (delB_sub ρ.l d).length_le
   have h2 := h.cnt
   show (delB ρ.l d).length ≤ n + 2
   omega
  ·exact ((hk1.mono (fun q _ e => .inl e)).trans (hk2.mono (fun _ _ f => f.elim))).trans (hk3.mono (fun q _ e => .inr e))
  ·rcases hq with hq | hq
   ·exact .inl (.inl hq)
   ·rcases hlv2 q hq with hq | hq
    ·exact .inl (.inr hq)
    ·exact .inr hq
  ·rcases hq with ⟨e, he, h0, hq⟩ | ⟨b, hb, h0, hq⟩
   ·exact .inl (.inl ⟨e, hE e he, h0, hq⟩)
   ·exact .inl (.inr ⟨b, hR b hb, h0, hq⟩)
 cases he : look σ.es d with
 | none =>
  have hf := h.nofind hd he
  refine ⟨false, (evict_none h.st d hd he).mono fun e w1 ⟨he1, hk1⟩ => ⟨he1, hk1.mono (fun _ _ f => f.elim), fun w2 hk2 => ?_⟩⟩
  refine (evict_ref (h.ref1 (hk1.mono (fun _ _ f => f.elim)) hk2) d hd).mono fun e w3 ⟨he3, hdr⟩ => ?_
  rw [hf] at he3
  refine ⟨he3, ?_⟩
  have hde : drops σ.es d = σ.es := drops_none _ _ he
  exact fin (σ' := σ) hde.symm (hS.more (by omega)) hnum (h.st.kept hk1 (fun _ _ f => f)) (hk1.mono (fun _ _ f => f.elim)) hk2 hdr
 | some e0 =>
  obtain ⟨b, hf, hbx, hbs⟩ := h.find hd he
  refine ⟨true, (evict_some h.st d hd e0 he (by omega) (by omega)).mono fun e w1 ⟨he1, hst, hk1⟩ => ⟨he1, hk1, fun w2 hk2 => ?_⟩⟩
  refine (evict_ref (h.ref1 hk1 hk2) d hd).mono fun e w3 ⟨he3, hdr⟩ => ?_
  rw [hf] at he3
  exact ⟨he3, fin rfl ((hS.evict d e0 he).more (by omega)) hnum hst hk1 hk2 hdr⟩
theorem limit_two {w : World} {lo k n s : Nat} {mv : Value} {σ : Sg} {r : Nat} {lv : Value} {ρ : Rg} (h : Two w lo k n s mv σ r lv ρ) (c : Int) : Calls Tryz.prog 17 #[.pointer (some ⟨s, 0, none⟩), .int .i64 c] w fun e w1 => e = .returned (.int .i64 (limR c)) ∧ Kept (Own s mv) w w1 ∧
   ∀ w2, Kept (fun _ => False) w1 w2 → Calls Tryz.prog 18 #[.pointer (some ⟨r, 0, none⟩), .int .i64 c] w2 fun e w3 => e = .returned (.int .i64 (limR c)) ∧ TwoTo w w3 lo k (n + 2) s mv σ r lv ρ := by
 have hS := h.sane
 have hnum := h.num
 refine (limit_x h.st c).mono fun e w1 ⟨he1, hst, hk1⟩ => ⟨he1, kept_s2 hk1, fun w2 hk2 => ?_⟩
 refine (limit_ref (h.ref1 (kept_s2 hk1) hk2) c).mono fun e w3 ⟨he3, hrs, hk3⟩ => ⟨he3, ?_⟩
 by_cases h0 : 0 ≤ c ∧ c ≤ 67108864
 ·rw [if_pos h0] at hst
  unfold Rg.lim at hrs
  rw [if_pos h0] at hrs
  exact h.nums (σ' := { σ with cp := c }) (ρ' := { ρ with cp := c }) hst (kept_s2 hk1) rfl rfl ((hS.limit c h0.2).more (by omega)) ⟨hnum.1, rfl, hnum.2.2⟩ (by omega) hrs (kept_r2 hk2 hk3)
 ·rw [if_neg h0] at hst
  unfold Rg.lim at hrs
  rw [if_neg h0] at hrs
  exact h.nums (σ' := σ) (ρ' := ρ) hst (kept_s2 hk1) rfl rfl (hS.more (by omega)) hnum (by omega) hrs (kept_r2 hk2 hk3)
theorem Two.stamp {w : World} {lo k n s : Nat} {mv : Value} {σ : Sg} {r : Nat} {lv : Value} {ρ : Rg} (h : Two w lo k n s mv σ r lv ρ) (d : List Int) (hd : d.length = 32) : stampB ρ.l d = stampOf σ.es d := by
 have := h.alk.lk d hd
 unfold stampB stampOf
 cases h1 : look σ.es d <;> cases h2 : findB ρ.l d <;> rw [h1, h2] at this <;> simp at this ⊢
 exact this.2.symm
theorem Two.raw {w : World} {lo k n s : Nat} {mv : Value} {σ : Sg} {r : Nat} {lv : Value} {ρ : Rg} (h : Two w lo k n s mv σ r lv ρ) (d : List Int) (hd : d.length = 32) : rawB ρ.l d = rawX σ.es d := by
 have := h.alk.lk d hd
 unfold rawB rawX
 cases h1 : look σ.es d <;> cases h2 : findB ρ.l d <;> rw [h1, h2] at this <;> simp at this ⊢
 exact this.1.symm
theorem Two.whole {w : World} {lo k n s : Nat} {mv : Value} {σ : Sg} {r : Nat} {lv : Value} {ρ : Rg} (h : Two w lo k n s mv σ r lv ρ) (d : List Int) (hd : d.length = 32) : wholeR k ρ.l d = wholeB k σ.es d := by
 have := h.alk.lk d hd
 unfold wholeR wholeB
 cases h1 : look σ.es d <;> cases h2 : findB ρ.l d <;> rw [h1, h2] at this <;> simp at this ⊢
 rw [this.1]
theorem Two.stay {w' : World} {w : World} {lo k n s : Nat} {mv : Value} {σ : Sg} {r : Nat} {lv : Value} {ρ : Rg} (h : Two w lo k n s mv σ r lv ρ) (hk : Kept (fun _ => False) w w') : TwoTo w w' lo k (n + 2) s mv σ r lv ρ := ⟨mv, σ, lv, ρ, (h.same hk).more (by omega), hk.mono (fun _ _ f => f.elim), fun q hq => .inl hq, fun q hq => .inl hq⟩
end Go.Proofs.YtjdbmjkidljhpaaGreatDoor

/-
  What CasClash's walk holds.
-/
import Derived.Test.YtjdbmjkidljhpaaDoorChead
namespace Go.Proofs.YtjdbmjkidljhpaaDoor
open Go.RowKit
set_option linter.unusedVariables false
set_option linter.unusedSimpArgs false
set_option maxRecDepth 100000

/-- The Store's own state, in the walk: one thing lies there, under d. -/
structure One (W0 : Nat) (k : Nat) (d ys : List Int) (mv : Value) (σ : Sg) : Prop where
  wd : σ.wd = k
  cp : σ.cp = 67108864
  us : σ.us = (ys.length : Int) + 32
  sp : 0 ≤ σ.sp ∧ σ.sp ≤ 2
  gt : σ.gt = 0
  pt : σ.pt = 1
  es : ∃ bv st born, σ.es = [⟨d, bv, ys, st, born⟩]
  mv : ∀ r, mv = .map (some r) → W0 ≤ r

theorem cut_cut (d : List Int) (k : Nat) (hd : d.length = 32) (hk : k ≤ 32) : cutL (cutL d k) k = cutL d k := by
  unfold cutL
  rw [List.take_append_of_le_length (by simp; omega), List.take_take, Nat.min_self]
theorem fits_front (k : Nat) (xs : List Int) (h1 : 1 ≤ k) (h2 : k ≤ 32) : fitsL (frontOf k xs) (k : Int) = true := by
  unfold fitsL cutE cutR
  rw [if_neg (by omega), if_neg (by omega)]
  have : cutL (frontOf k xs) (k : Int).toNat = frontOf k xs := cut_cut (sha xs) k (sha_len xs) h2
  rw [this]
  simp
theorem One.look {W0 k : Nat} {d ys : List Int} {mv : Value} {σ : Sg} (h : One W0 k d ys mv σ) : ∃ e, YtjdbmjkidljhpaaDoor.look σ.es d = some e ∧ e.xs = ys := by
  obtain ⟨bv, st, born, he⟩ := h.es
  exact ⟨_, by rw [he]; exact look_one _ _ _ _ _, rfl⟩
theorem One.none {W0 k : Nat} {d ys d' : List Int} {mv : Value} {σ : Sg} (h : One W0 k d ys mv σ) (hd : d' ≠ d) : YtjdbmjkidljhpaaDoor.look σ.es d' = none := by
  obtain ⟨bv, st, born, he⟩ := h.es
  rw [he, YtjdbmjkidljhpaaDoor.look, if_neg hd]
  rfl
theorem One.whole {W0 k : Nat} {d ys : List Int} {mv : Value} {σ : Sg} (h : One W0 k d ys mv σ) : wholeB k σ.es d = decide (frontOf k ys = d) := by
  obtain ⟨bv, st, born, he⟩ := h.es
  unfold wholeB
  rw [he, look_one]
theorem One.raw {W0 k : Nat} {d ys : List Int} {mv : Value} {σ : Sg} (h : One W0 k d ys mv σ) : rawX σ.es d = ys ∧ (YtjdbmjkidljhpaaDoor.look σ.es d).isSome = true := by
  obtain ⟨bv, st, born, he⟩ := h.es
  unfold rawX
  rw [he, look_one]
  exact ⟨rfl, rfl⟩

/-- What a Put that goes well leaves: it lies there. -/
structure Lies (W0 : Nat) (k : Nat) (d xs : List Int) (mv : Value) (σ : Sg) : Prop where
  wd : σ.wd = k
  gt : σ.gt = 0
  whole : wholeB k σ.es d = true
  raw : rawX σ.es d = xs
  mv : ∀ r, mv = .map (some r) → W0 ≤ r
theorem look_lays : ∀ (es : List En) (e : En), ∃ b, YtjdbmjkidljhpaaDoor.look (lays es e) e.k = some { e with born := b }
  | [], e => ⟨e.born, by rw [lays, YtjdbmjkidljhpaaDoor.look, if_pos rfl]⟩
  | x :: es, e => by
    rw [lays]
    by_cases h : e.k = x.k
    · rw [if_pos h]
      exact ⟨x.born, by rw [YtjdbmjkidljhpaaDoor.look, if_pos rfl]⟩
    · rw [if_neg h]
      obtain ⟨b, hb⟩ := look_lays es e
      exact ⟨b, by rw [YtjdbmjkidljhpaaDoor.look, if_neg h, hb]⟩
theorem lies_of {B W0 k : Nat} {d xs : List Int} {mv : Value} {σ σ' : Sg} (h : LayOk B σ σ' d xs) (hw : σ.wd = k) (hg : σ.gt = 0) (hd : d = frontOf k xs) (hm : ∀ r, mv = .map (some r) → W0 ≤ r) : Lies W0 k d xs mv σ' := by
  obtain ⟨bv, born, _, rfl⟩ := h
  obtain ⟨b, hb⟩ := look_lays σ.es ⟨d, bv, xs, σ.sp + 1, born⟩
  refine ⟨hw, hg, ?_, ?_, hm⟩
  · show wholeB k (lays σ.es ⟨d, bv, xs, σ.sp + 1, born⟩) d = true
    unfold wholeB
    rw [show YtjdbmjkidljhpaaDoor.look (lays σ.es ⟨d, bv, xs, σ.sp + 1, born⟩) d = _ from hb]
    simp [hd]
  · show rawX (lays σ.es ⟨d, bv, xs, σ.sp + 1, born⟩) d = xs
    unfold rawX
    rw [show YtjdbmjkidljhpaaDoor.look (lays σ.es ⟨d, bv, xs, σ.sp + 1, born⟩) d = _ from hb]
theorem cells_not_map {w : World} {g r : Nat} {c : Array Value} {t : TypeId} {f : Nat × Nat} {s : Nat} {mv : Value} {σ : Sg} (hg : w.heap[g]? = some (.cells c t f)) (h : Stor w s mv σ) (hgs : g ≠ s) : ¬ Own s mv g := by
  intro hh
  rcases hh with hh | hh
  · exact hgs hh
  · rcases h.map with ⟨h1, _⟩ | ⟨r', cl, h1, h2, _⟩
    · rw [h1] at hh; cases hh
    · rw [h1] at hh
      cases hh
      rw [hg] at h2
      cases h2
theorem BIn.blt {w : World} {v : Value} {xs : List Int} (h : BIn w v xs) (hx : xs ≠ []) : ∀ g, v.ownBlock = some g → g < w.heap.size := fun g hg => by
  obtain ⟨i, u, hu⟩ := h.lt hx g hg
  obtain ⟨c, t, f, h2⟩ := cell_cells hu
  exact heap_lt h2
theorem BIn.own {w w' : World} {s : Nat} {mv : Value} {σ : Sg} {v : Value} {xs : List Int} (hx : BIn w v xs) (h : Stor w s mv σ) (hk : Kept (Own s mv) w w') (hs : xs ≠ [] → ∀ g, v.ownBlock = some g → g ≠ s) : BIn w' v xs :=
  hx.kept2 hk (fun hx0 g hg => by
    obtain ⟨i, u, hu⟩ := hx.lt hx0 g hg
    obtain ⟨c, t, f, h2⟩ := cell_cells hu
    exact cells_not_map (r := 0) h2 h (hs hx0 g hg))
theorem zz_eq (W : World) : (Op.equalIn 10000 28 (.agg #[.int .u8 0, .int .u8 0, .int .u8 0, .int .u8 0, .int .u8 0, .int .u8 0, .int .u8 0, .int .u8 0, .int .u8 0, .int .u8 0, .int .u8 0, .int .u8 0, .int .u8 0, .int .u8 0, .int .u8 0, .int .u8 0, .int .u8 0, .int .u8 0, .int .u8 0, .int .u8 0, .int .u8 0, .int .u8 0, .int .u8 0, .int .u8 0, .int .u8 0, .int .u8 0, .int .u8 0, .int .u8 0, .int .u8 0, .int .u8 0, .int .u8 0, .int .u8 0]) (.agg #[.int .u8 0, .int .u8 0, .int .u8 0, .int .u8 0, .int .u8 0, .int .u8 0, .int .u8 0, .int .u8 0, .int .u8 0, .int .u8 0, .int .u8 0, .int .u8 0, .int .u8 0, .int .u8 0, .int .u8 0, .int .u8 0, .int .u8 0, .int .u8 0, .int .u8 0, .int .u8 0, .int .u8 0, .int .u8 0, .int .u8 0, .int .u8 0, .int .u8 0, .int .u8 0, .int .u8 0, .int .u8 0, .int .u8 0, .int .u8 0, .int .u8 0, .int .u8 0])).run Tryd.prog W = .ok true W := by
  have := run_eq_arr W 9998 28 32 zeros32 zeros32 Tryd.underlying28 rfl rfl
  rw [decide_eq_true rfl] at this
  exact this
theorem one_first {B W0 k : Nat} {d xs : List Int} {mv : Value} {σ' : Sg} (h : LayOk B (Sg.new (k : Int) 67108864).put1 σ' d xs) (hm : ∀ r, mv = .map (some r) → W0 ≤ r) : One W0 k d xs mv σ' := by
  obtain ⟨bv, born, rfl⟩ := lay_empty h rfl
  exact ⟨rfl, rfl, by show (0 : Int) + ((xs.length : Int) + 32) = _; omega, ⟨by show (0 : Int) ≤ 0 + 1; decide, by show (0 : Int) + 1 ≤ 2; decide⟩, rfl, rfl, ⟨bv, _, born, rfl⟩, hm⟩
theorem One.used {W0 k : Nat} {d ys xs : List Int} {mv : Value} {σ : Sg} (h : One W0 k d ys mv σ) : usedOf σ d xs = (xs.length : Int) + 32 := by
  obtain ⟨e, he, hx⟩ := h.look
  unfold usedOf
  rw [he]
  show σ.us + ((xs.length : Int) + 32) - ((e.xs.length : Int) + 32) = _
  rw [hx, h.us]
  omega
theorem One.used2 {W0 k : Nat} {d ys d' xs : List Int} {mv : Value} {σ : Sg} (h : One W0 k d ys mv σ) (hd : d' ≠ d) : usedOf σ d' xs = (ys.length : Int) + 32 + ((xs.length : Int) + 32) := by
  unfold usedOf
  rw [h.none hd, h.us]
  simp
theorem one_next {B W0 k : Nat} {d ys xs : List Int} {mv mv' : Value} {σ σ' : Sg} (ho : One W0 k d ys mv σ) (hsp : σ.sp ≤ 1) (h : LayOk B σ σ' d xs) (hm : ∀ r, mv' = .map (some r) → W0 ≤ r) : One W0 k d xs mv' σ' := by
  have hu := ho.used (xs := xs)
  obtain ⟨bv, born, _, rfl⟩ := h
  obtain ⟨bv0, st0, born0, he⟩ := ho.es
  refine ⟨ho.wd, ho.cp, hu, ⟨?_, ?_⟩, ho.gt, ho.pt, ⟨bv, σ.sp + 1, born0, ?_⟩, hm⟩
  · have := ho.sp.1
    show 0 ≤ σ.sp + 1
    omega
  · show σ.sp + 1 ≤ 2
    omega
  · show lays σ.es _ = _
    rw [he, lays, if_pos rfl]
theorem One.put1 {W0 k : Nat} {d ys : List Int} {mv : Value} {σ : Sg} (h : One W0 k d ys mv σ) : σ.put1.es = σ.es ∧ σ.put1.us = σ.us ∧ σ.put1.wd = σ.wd ∧ σ.put1.gt = σ.gt := ⟨rfl, rfl, rfl, rfl⟩
end Go.Proofs.YtjdbmjkidljhpaaDoor

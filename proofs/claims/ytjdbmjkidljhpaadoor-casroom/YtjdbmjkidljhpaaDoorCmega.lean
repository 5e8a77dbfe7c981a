/-
  What CasBig's walk holds.
-/
import Derived.Test.YtjdbmjkidljhpaaDoorCone
namespace Go.Proofs.YtjdbmjkidljhpaaDoor
open Go.RowKit
set_option linter.unusedVariables false
set_option linter.unusedSimpArgs false
set_option maxRecDepth 100000

theorem zer_list (n : Nat) : ∃ ys : List Int, ys.length = n ∧ (∀ y ∈ ys, 0 ≤ y ∧ y < 256) ∧ zer n = (ys.map (Value.int .u8)).toArray :=
  ⟨List.replicate n 0, List.length_replicate, fun y hy => by rw [List.eq_of_mem_replicate hy]; decide, row_list (zer_size n) List.length_replicate (fun j hj => by rw [zer_at n j hj]; simp [List.getD, hj])⟩

/-- So many bytes in one block, at its front. -/
structure Mega (w : World) (b n : Nat) (ys : List Int) : Prop where
  len : ys.length = n
  rng : ∀ y ∈ ys, 0 ≤ y ∧ y < 256
  blk : w.heap[b]? = some (.cells (ys.map (Value.int .u8)).toArray 5 (0, 0))
theorem Mega.lt {w : World} {b n : Nat} {ys : List Int} (h : Mega w b n ys) : b < w.heap.size := heap_lt h.blk
theorem Mega.kept {S : Nat → Prop} {w w' : World} {b n : Nat} {ys : List Int} (h : Mega w b n ys) (hk : Kept S w w') (hs : ¬ S b) : Mega w' b n ys := ⟨h.len, h.rng, (hk.block b h.lt hs).trans h.blk⟩
theorem Mega.there {w : World} {b n k : Nat} {ys : List Int} (h : Mega w b n ys) (hk : k < n) : (∃ u, w.cell? ⟨b, k, none⟩ = some u) ∧ w.frozen? ⟨b, k, none⟩ = false := by
  refine ⟨⟨.int .u8 (ys[k]'(by rw [h.len]; exact hk)), ?_⟩, frozen_block _ _ _ _ _ h.blk⟩
  rw [cell_block _ _ _ _ _ _ h.blk]
  simp [List.getElem?_eq_getElem (show k < ys.length by rw [h.len]; exact hk)]
theorem Mega.step {w : World} {b n k : Nat} {ys : List Int} (h : Mega w b n ys) (x : Int) (hx : 0 ≤ x ∧ x < 256) : Mega (w.setCell ⟨b, k, none⟩ (.int .u8 x)) b n (ys.set k x) := by
  refine ⟨by rw [List.length_set, h.len], fun y hy => ?_, ?_⟩
  · rcases List.mem_or_eq_of_mem_set hy with h' | h'
    · exact h.rng y h'
    · rw [h']; exact hx
  · rw [set_block _ _ _ _ _ _ h.blk]
    simp [List.map_set]
theorem Mega.bin {w : World} {b n : Nat} {ys : List Int} (h : Mega w b n ys) : BIn w (.slice (some ⟨b, 0, none⟩) n n) ys := by
  refine ⟨_, n, by rw [h.len], by rw [h.len]; exact Nat.le_refl _, .inr ⟨b, 0, rfl, fun i hi => ?_⟩⟩
  rw [cell_block _ _ _ _ _ _ h.blk, Nat.zero_add]
  simp [List.getD, List.getElem?_eq_getElem hi]
theorem Mega.own {w : World} {b n : Nat} {ys : List Int} (h : Mega w b n ys) (hn : n ≤ maxLen) : w.ownsRow b 5 1 (.slice (some ⟨b, 0, none⟩) n n) n (ys.map (Value.int .u8)) :=
  ⟨by rw [List.length_map, h.len, Nat.mul_one], .inr ⟨b, n, _, rfl, Nat.le_refl _, h.blk, Nat.le_refl _, hn, by rw [List.size_toArray, List.length_map, h.len, Nat.mul_one], by rw [Nat.mul_one]; exact List.take_of_length_le (by rw [List.length_map, h.len]; exact Nat.le_refl _)⟩⟩

theorem Stor.kept3 {S : Nat → Prop} {w w' : World} {s : Nat} {mv : Value} {σ : Sg} (h : Stor w s mv σ) (hk : Kept S w w') (hs : ¬ S s) (hm : ∀ r, mv = .map (some r) → ¬ S r) (hb : ∀ e ∈ σ.es, e.xs ≠ [] → ∀ g, e.bv.ownBlock = some g → ¬ S g) : Stor w' s mv σ := by
  refine ⟨(hk.block s h.lt hs).trans h.blk, ?_, h.key, fun e he => ?_⟩
  · rcases h.map with h1 | ⟨r, c, h1, h2, h3⟩
    · exact .inl h1
    · exact .inr ⟨r, c, h1, (hk.block r (heap_lt h2) (hm r h1)).trans h2, h3⟩
  · obtain ⟨h1, h2, h3, h4⟩ := h.blob e he
    exact ⟨h1.kept2 hk (hb e he), h2, h3, h4⟩
/-- Bytes lie in no Store's own block. -/
theorem Stor.nobytes {w : World} {t : Nat} {mv : Value} {σ : Sg} (h : Stor w t mv σ) (hmv : ∃ r, mv = .map r) {v : Value} {xs : List Int} (hx : BIn w v xs) (h0 : xs ≠ []) : ∀ g, v.ownBlock = some g → g ≠ t := by
  intro g hg e
  subst e
  obtain ⟨ao, c, rfl, hc, h1⟩ := hx
  rcases h1 with h1 | ⟨b, o, rfl, h1⟩
  · exact h0 h1
  · obtain rfl : b = g := by simpa [Value.ownBlock] using hg
    have hl : 0 < xs.length := List.length_pos_iff.2 h0
    have := h1 0 hl
    rw [cell_block _ _ _ _ _ _ h.blk] at this
    obtain ⟨hlt, hv⟩ := Array.getElem?_eq_some_iff.1 this
    obtain ⟨r, rfl⟩ := hmv
    have hm := Array.getElem_mem hlt
    rw [hv] at hm
    simp [Sg.cells] at hm
theorem Stor.ismap {w : World} {t : Nat} {mv : Value} {σ : Sg} (h : Stor w t mv σ) : ∃ r, mv = .map r := by
  rcases h.map with ⟨h1, _⟩ | ⟨r, c, h1, _⟩
  · exact ⟨_, h1⟩
  · exact ⟨_, h1⟩
/-- What one Store's own block comes to leaves the other. -/
theorem Stor.beside {w w' : World} {s t : Nat} {mv mv' : Value} {σ τ : Sg} (h : Stor w s mv σ) (g : Stor w t mv' τ) (hst : s ≠ t) (hk : Kept (fun k => k = t) w w') : Stor w' s mv σ :=
  h.kept3 hk hst (fun r hr e => by
    subst e
    rcases h.map with ⟨h1, _⟩ | ⟨r', c, h1, h2, h3⟩
    · rw [h1] at hr; cases hr
    · rw [h1] at hr
      cases hr
      rw [g.blk] at h2
      cases h2) (fun e he h0 q hq => g.nobytes g.ismap (h.blob e he).1 h0 q hq)
theorem own_none {s : Nat} {w w' : World} (h : Kept (Own s (.map none)) w w') : Kept (fun k => k = s) w w' := h.mono (fun k _ hk => by
  rcases hk with hk | hk
  · exact hk
  · cases hk)

theorem sub_bin {ao : Option Addr} {n c : Nat} {xs : List Int} {W : World} (hB : BIn W (.slice ao n c) xs) (hn : xs.length = n) (hi : Nat) (h2 : hi ≤ n) : BIn W (sliced ao 0 hi c 1) (xs.take hi) := by
  obtain ⟨ao', c', h, hc, hx⟩ := hB
  cases h
  have hl : (xs.take hi).length = hi := by simp; omega
  unfold sliced
  by_cases e : hi = 0
  · subst e
    refine ⟨_, _, by rw [hl], by omega, .inl rfl⟩
  · rcases hx with rfl | ⟨b, o, rfl, hx⟩
    · simp at h2
      omega
    · refine ⟨some ⟨b, o, none⟩, c, by rw [hl, if_neg (by omega)]; simp [Addr.add], by omega, .inr ⟨b, o, rfl, fun i hi' => ?_⟩⟩
      rw [hl] at hi'
      rw [hx i (by omega)]
      simp [List.getD, List.getElem?_take, hi']
theorem elem26 : Tryd.prog.underlying 26 = some (.slice (Tryd.prog.elem 26)) := by kernel_rfl
theorem sizeE26 (W : World) : (sizeOf (Tryd.prog.elem 26)).run Tryd.prog W = .ok 1 W := by
  rw [show Tryd.prog.elem 26 = 5 by kernel_rfl]
  exact Tryd.sizeOf5 W
theorem sub_h (ao : Option Addr) (n c : Nat) (h : Int) (h0 : 0 ≤ h) (h2 : h ≤ (c : Int)) (W : World) : (Instr.slice 26 (.slice ao n c) none (some (.int .i64 h)) none).run Tryd.prog W = .ok (sliced ao 0 h.toNat c 1) W := by
  rw [run_slice_h W 26 ao n c elem26 .i64 h h0 h2, sizeE26]
  rfl
/-- A list's front, as its slicing lays it. -/
theorem front_of {ao : Option Addr} {c : Nat} {xs : List Int} {W : World} (hB : BIn W (.slice ao xs.length c) xs) (m : Nat) (hm : m ≤ xs.length) : ∃ po pc, (∀ W' : World, (Instr.slice 26 (.slice ao xs.length c) none (some (.int .i64 (m : Int))) none).run Tryd.prog W' = .ok (.slice po (xs.take m).length pc) W') ∧ (∀ W' : World, BIn W' (.slice ao xs.length c) xs → BIn W' (.slice po (xs.take m).length pc) (xs.take m)) ∧ (∀ g, (Value.slice po (xs.take m).length pc).ownBlock = some g → (Value.slice ao xs.length c).ownBlock = some g) := by
  have hc : xs.length ≤ c := by
    obtain ⟨_, _, h, hc, _⟩ := hB
    cases h
    exact hc
  have hs := fun W' : World => sub_h ao xs.length c (m : Int) (by omega) (by omega) W'
  have hb := fun (W' : World) (h : BIn W' (.slice ao xs.length c) xs) => sub_bin h rfl m hm
  obtain ⟨po, pc, he, _, _⟩ := id (hb W hB)
  rw [Int.toNat_natCast, he] at hs
  rw [he] at hb
  refine ⟨po, pc, hs, hb, fun g hg => ?_⟩
  unfold sliced at he
  cases ao with
  | none => simp at he; rw [← he.1] at hg; cases hg
  | some a => simp at he; rw [← he.1] at hg; revert hg; split <;> simp [Value.ownBlock, Addr.add]

/-- After the Put: what the Store knows. -/
structure Big1 (b : Nat) (d ys : List Int) (σ : Sg) : Prop where
  wd : σ.wd = 32
  cp : σ.cp = 1048608
  us : σ.us = 1048608
  gt : σ.gt = 0
  pt : σ.pt = 1
  whole : wholeB 32 σ.es d = true
  raw : rawX σ.es d = ys
  off : ∀ e ∈ σ.es, e.xs ≠ [] → ∀ g, e.bv.ownBlock = some g → g ≠ b
theorem big_first {B b : Nat} {ys : List Int} {σ' : Sg} (h : LayOk B (Sg.new 32 1048608).put1 σ' (frontOf 32 ys) ys) (hl : ys.length = 1048576) (hb : b < B) : Big1 b (frontOf 32 ys) ys σ' := by
  obtain ⟨bv, born, hB, rfl⟩ := h
  refine ⟨rfl, rfl, ?_, rfl, rfl, ?_, ?_, fun e he h0 g hg => ?_⟩
  · show usedOf (Sg.new 32 1048608).put1 (frontOf 32 ys) ys = _
    rw [used_empty _ _ _ rfl, hl]
    rfl
  · show wholeB 32 [⟨frontOf 32 ys, bv, ys, _, born⟩] _ = true
    unfold wholeB
    rw [look_one]
    exact decide_eq_true rfl
  · show rawX [⟨frontOf 32 ys, bv, ys, _, born⟩] _ = ys
    unfold rawX
    rw [look_one]
  · have he' : e ∈ [(⟨frontOf 32 ys, bv, ys, (Sg.new 32 1048608).put1.sp + 1, born⟩ : En)] := he
    rw [List.mem_singleton.1 he'] at hg
    have := hB g hg
    omega
def one32 : List Int := 1 :: List.replicate 31 0
theorem one32_fit : fitsL one32 32 = true := by decide +kernel
end Go.Proofs.YtjdbmjkidljhpaaDoor

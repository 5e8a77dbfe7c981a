/-
  What SumPieces wants: pieces of a list, rows of lists, Len.
-/
import Derived.Test.YtdbogfjkaebeoaaDoorParts
import Derived.Test.YtdbogfjkaebeoaaDoorEql
namespace Go.Proofs.YtdbogfjkaebeoaaDoor
open Go.RowKit
set_option linter.unusedVariables false
set_option linter.unusedSimpArgs false

theorem sub_bin {ao : Option Addr} {n c : Nat} {xs : List Int} {W : World} (hB : BIn W (.slice ao n c) xs) (hn : xs.length = n) (lo hi : Nat) (h1 : lo ≤ hi) (h2 : hi ≤ n) :
    BIn W (sliced ao lo hi c 1) ((xs.drop lo).take (hi - lo)) := by
  obtain ⟨ao', c', h, hc, hx⟩ := hB
  cases h
  have hl : ((xs.drop lo).take (hi - lo)).length = hi - lo := by simp; omega
  unfold sliced
  by_cases e : hi = lo
  · subst e
    refine ⟨_, _, by rw [hl], by omega, .inl (List.eq_nil_of_length_eq_zero (by omega))⟩
  · rcases hx with rfl | ⟨b, o, rfl, hx⟩
    · simp at h2
      omega
    · refine ⟨_, _, by rw [hl], by omega, .inr ⟨b, o + lo, ?_, fun i hi' => ?_⟩⟩
      · rw [if_neg (by omega), Option.map_some, Nat.mul_one, Addr.add_mid]
      · rw [hl] at hi'
        rw [Nat.add_assoc, hx (lo + i) (by omega)]
        simp [List.getD, List.getElem?_take, hi', List.getElem?_drop]
theorem elem25 : Tryd.prog.underlying 25 = some (.slice (Tryd.prog.elem 25)) := by kernel_rfl
theorem sizeE25 (W : World) : (sizeOf (Tryd.prog.elem 25)).run Tryd.prog W = .ok 1 W := by
  rw [show Tryd.prog.elem 25 = 5 by kernel_rfl]
  exact Tryd.sizeOf5 W
theorem sub_lh (ao : Option Addr) (n c : Nat) (l h : Int) (h0 : 0 ≤ l) (h1 : l ≤ h) (h2 : h ≤ (c : Int)) (W : World) : (Instr.slice 25 (.slice ao n c) (some (.int .i64 l)) (some (.int .i64 h)) none).run Tryd.prog W = .ok (sliced ao l.toNat h.toNat c 1) W := by
  rw [run_slice_lh W 25 ao n c elem25 .i64 .i64 l h h0 h1 h2, sizeE25]
  rfl
theorem sub_h (ao : Option Addr) (n c : Nat) (h : Int) (h0 : 0 ≤ h) (h2 : h ≤ (c : Int)) (W : World) : (Instr.slice 25 (.slice ao n c) none (some (.int .i64 h)) none).run Tryd.prog W = .ok (sliced ao 0 h.toNat c 1) W := by
  rw [run_slice_h W 25 ao n c elem25 .i64 h h0 h2, sizeE25]
  rfl
theorem sub_l (ao : Option Addr) (n c : Nat) (l : Int) (h0 : 0 ≤ l) (h1 : l ≤ (n : Int)) (W : World) : (Instr.slice 25 (.slice ao n c) (some (.int .i64 l)) none none).run Tryd.prog W = .ok (sliced ao l.toNat n c 1) W := by
  rw [run_slice_l W 25 ao n c elem25 .i64 l h0 h1, sizeE25]
  rfl

theorem info25' : (Tryd.prog.info? 25).map (fun i => (i.zero, i.size, i.bytes)) = some (some (.slice none 0 0), 1, 24) := by kernel_rfl
/-- One list more onto a row of lists of one's own. -/
theorem app_part (W : World) (v : Value) (n base : Nat) (vs : List Value) (x : Value) (h1 : x.oneCell' = true) (hown : W.ownsRow base 25 1 v n vs) (hb : base ≤ W.heap.size) (hsz : (n + 1) * 24 ≤ 140737488355328) :
    ∃ v' w', (Builtin.append_ #[22, 22] 22 #[v, .slice (some ⟨W.heap.size, 0, none⟩) 1 1]).run Tryd.prog (W.alloc (.cells #[x] 25)) = .ok v' w' ∧ w'.ownsRow base 25 1 v' (n + 1) (vs ++ [x]) ∧ (∃ g cap, v' = .slice (some ⟨g, 0, none⟩) (n + 1) cap) ∧ Kept (fun k => base ≤ k) W w' ∧ Kept (fun k => v.ownBlock = some k) W w' := by
  obtain ⟨i0, hi, hz0, hz1, hz2⟩ := info_parts info25'
  obtain ⟨v', w', hr, h2, h3, _⟩ := run_append_own (P := Tryd.prog) (W.alloc (.cells #[x] 25)) base 22 22 25 i0 (.slice none 0 0) 1 24 Tryd.underlying22 hi hz0 hz1 hz2 rfl (by decide) v n vs (hown.alloc _) ⟨W.heap.size, 0, none⟩ 1 1 [x] rfl (fun j u hj => by
    rw [Addr.add_mid, cell_block _ _ _ _ _ _ (alloc_new _ _ rfl), Nat.zero_add]
    simpa using hj) (by intro u hu; simp at hu; subst hu; exact h1) (by unfold maxLen; omega) hsz (by simp; omega)
  refine ⟨v', w', hr, h2, ?_, ?_, ?_⟩
  · rcases h2.2 with ⟨_, h⟩ | ⟨g, cap, cur, h, _⟩
    · simp at h
    · exact ⟨g, cap, h⟩
  · exact ((Kept.refl (fun k => base ≤ k) W).alloc _).grown h3 (fun k hk => .inr (hown.lt k hk).1)
  · exact ((Kept.refl (fun k => v.ownBlock = some k) W).alloc _).grown h3 (fun k hk => .inr hk)
theorem pin_own {W : World} {base n : Nat} {v : Value} {vs : List Value} {ls : List (List Int)} (h : W.ownsRow base 25 1 v n vs) (hl : ls.length = n) (hb : ∀ i, i < n → BIn W (vs.getD i undef) (ls.getD i [])) : PIn W v ls := by
  subst hl
  rcases h.2 with ⟨rfl, h0⟩ | ⟨g, cap, cur, rfl, _, hg, _⟩
  · exact ⟨none, 0, by rw [h0], fun i hi => absurd hi (by omega)⟩
  · refine ⟨_, cap, rfl, fun i hi => ⟨g, 0, vs.getD i undef, rfl, ?_, hb i hi⟩⟩
    have hlen : i < vs.length := by have := h.1; omega
    have := h.cells (g := g) rfl i (vs.getD i undef) (by simp [List.getD, List.getElem?_eq_getElem hlen])
    rw [Addr.add_mid] at this
    exact this

set_option maxRecDepth 100000 in
set_option maxHeartbeats 1000000 in
theorem len_any (g : Nat) (xs : List Int) (w : World) (H : HashAt w g xs) : Calls Tryd.prog 21 #[.pointer (some ⟨g, 0, none⟩)] w fun e w' => e = .returned (.int .i64 xs.length) ∧ w' = w := by
  obtain ⟨h, hI, hO⟩ := H
  have hc := hI.len
  have hn := hO.n
  rw [hn] at hc
  clear hI hO
  go_enter Tryd.func21, Tryd.ntmps21
  go_wp2
  go_ret
  exact ⟨rfl, rfl⟩
end Go.Proofs.YtdbogfjkaebeoaaDoor

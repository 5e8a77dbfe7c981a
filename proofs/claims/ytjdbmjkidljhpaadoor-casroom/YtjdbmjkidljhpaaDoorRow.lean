/-
  A block of numbers of one kind; make; filling by contract.
-/
import Derived.Test.YtjdbmjkidljhpaaDoorMem
namespace Go.Proofs.YtjdbmjkidljhpaaDoor
open Go.RowKit
set_option linter.unusedVariables false
set_option linter.unusedSimpArgs false

/-- A block of sz numbers: what the first n of them are. -/
def Row (w : World) (g : Nat) (t : TypeId) (q : IntKind) (sz n : Nat) (f : Nat → Int) : Prop :=
  ∃ cur : Array Value, w.heap[g]? = some (.cells cur t (0, 0)) ∧ cur.size = sz ∧ ∀ j, j < n → cur[j]? = some (.int q (f j))

theorem Row.cell {w : World} {g n k sz : Nat} {t : TypeId} {q : IntKind} {f : Nat → Int} (h : Row w g t q sz n f) (hk : k < n) : w.cell? ⟨g, k, none⟩ = some (.int q (f k)) := by
  obtain ⟨cur, h0, h1, h2⟩ := h
  rw [cell_block _ _ _ _ _ _ h0]
  exact h2 k hk
theorem Row.there {w : World} {g n k sz : Nat} {t : TypeId} {q : IntKind} {f : Nat → Int} (h : Row w g t q sz n f) (hk : k < sz) : (∃ u, w.cell? ⟨g, k, none⟩ = some u) ∧ w.frozen? ⟨g, k, none⟩ = false := by
  obtain ⟨cur, h0, h1, h2⟩ := h
  refine ⟨⟨cur[k]'(by omega), ?_⟩, frozen_block _ _ _ _ _ h0⟩
  rw [cell_block _ _ _ _ _ _ h0]
  exact Array.getElem?_eq_getElem (by omega)
theorem Row.set {w : World} {g n k n' sz : Nat} {t : TypeId} {q : IntKind} {f f' : Nat → Int} (h : Row w g t q sz n f) (hk : k < sz) (x : Int) (hx : f' k = x) (hf : ∀ j, j < n' → j ≠ k → j < n ∧ f' j = f j) :
    Row (w.setCell ⟨g, k, none⟩ (.int q x)) g t q sz n' f' := by
  obtain ⟨cur, h0, h1, h2⟩ := h
  refine ⟨_, set_block _ _ _ _ _ _ h0 _, by simp [h1], fun j hj => ?_⟩
  rw [Array.getElem?_setIfInBounds]
  by_cases e : k = j
  · subst e
    rw [if_pos rfl, if_pos (by omega), hx]
  · obtain ⟨a, b⟩ := hf j hj (fun h => e h.symm)
    rw [if_neg e, h2 j a, b]
theorem Row.kept {S : Nat → Prop} {w w' : World} {g n sz : Nat} {t : TypeId} {q : IntKind} {f : Nat → Int} (h : Row w g t q sz n f) (hk : Kept S w w') (hs : ¬ S g) : Row w' g t q sz n f := by
  obtain ⟨cur, h0, h1, h2⟩ := h
  exact ⟨cur, (hk.block g (Array.getElem?_eq_some_iff.1 h0).1 hs).trans h0, h1, h2⟩
theorem Row.other {w : World} {g n sz : Nat} {t : TypeId} {q : IntKind} {f : Nat → Int} (h : Row w g t q sz n f) (p : Addr) (u : Value) (hp : g ≠ p.block) : Row (w.setCell p u) g t q sz n f := h.kept (kept_set w p u) hp
/-- The whole block, by its list. -/
theorem row_list {q : IntKind} {cur : Array Value} {l : List Int} {n : Nat} (hs : cur.size = n) (hl : l.length = n) (h : ∀ j, j < n → cur[j]? = some (.int q (l.getD j 0))) : cur = (l.map (Value.int q)).toArray := by
  apply Array.ext_getElem?
  intro j
  by_cases hj : j < n
  · rw [h j hj]
    simp [List.getD, List.getElem?_eq_getElem (show j < l.length by omega)]
  · rw [Array.getElem?_eq_none (by omega), Array.getElem?_eq_none (by simp; omega)]

def zer (n : Nat) : Array Value := madeCells (Value.int .u8 0).cells n
theorem zer_size (n : Nat) : (zer n).size = n := size_madeCells _ n
theorem zer_at (n i : Nat) (h : i < n) : (zer n)[i]? = some (.int .u8 0) := by
  simp [zer, madeCells, h, Value.cells, Nat.mod_one]
theorem info5 : (Tryd.prog.info? 5).map (fun i => (i.zero, i.size, i.bytes)) = some (some (.int .u8 0), 1, 1) := by kernel_rfl
theorem make_any (W : World) (l : Nat) (h : l ≤ 140737488355328) : (Instr.makeSlice 26 (.int .i64 (l : Int)) (.int .i64 (l : Int))).run Tryd.prog W = .ok (.slice (some ⟨W.heap.size, 0, none⟩) l l) (W.alloc (.cells (zer l) 5)) := by
  obtain ⟨i0, hi, hz0, hz1, hz2⟩ := info_parts info5
  have := run_make (P := Tryd.prog) W 26 5 i0 (.int .u8 0) Tryd.underlying26 hi hz0 .i64 .i64 (l : Int) (l : Int) (by omega) (by omega) (by rw [hz2]; omega) (by omega)
  simpa [zer, hz1] using this

/-- The filling, as far as i of the length's bytes stand in it. -/
def padf (n i j : Nat) : Int := if j = 0 then 128 else if j < 1 + zeros n then 0 else if j < 1 + zeros n + i then lbyte n (j - 1 - zeros n) else 0
theorem pad_at (n j : Nat) (hj : j < 9 + zeros n) : (pad n).getD j 0 = padf n 8 j := by
  unfold pad padf
  cases j with
  | zero => rfl
  | succ j =>
    rw [if_neg (by omega)]
    show (List.replicate (zeros n) 0 ++ lenb n).getD j 0 = _
    by_cases h : j < zeros n
    · rw [if_pos (by omega), List.getD, List.getElem?_append_left (by simpa using h)]
      simp [List.getElem?_replicate, h]
    · rw [if_neg (by omega), if_pos (by omega), List.getD, List.getElem?_append_right (by simpa using h)]
      simp only [List.length_replicate]
      rw [show j + 1 - 1 - zeros n = j - zeros n by omega, lenb, List.getElem?_map, List.getElem?_range (by omega)]
      rfl

set_option maxRecDepth 100000 in
set_option maxHeartbeats 1000000 in
theorem filling_any (n : Nat) (hn : n < 2305843009213693952) (w : World) : Calls Tryd.prog 56 #[.int .i64 (n : Int)] w fun e w' => e = .returned (.slice (some ⟨w.heap.size, 0, none⟩) (9 + zeros n) (9 + zeros n)) ∧ w'.heap[w.heap.size]? = some (.cells ((pad n).map (Value.int .u8)).toArray 5 (0, 0)) ∧ Kept (fun _ => False) w w' := by
  obtain ⟨z, hz⟩ : ∃ z, zeros n = z := ⟨_, rfl⟩
  have hz64 : z < 64 := by rw [← hz]; unfold zeros; omega
  have E1 : (119 - (n : Int) % 64) % 64 = (z : Int) := by rw [← hz]; unfold zeros; omega
  have E2 : (119 - (n : Int)) % 64 = (z : Int) := by rw [← hz]; unfold zeros; omega
  have mk := make_any w (9 + z) (by omega)
  rw [show ((9 + z : Nat) : Int) = 1 + (z : Int) + 8 by omega] at mk
  have hc0 : (w.alloc (.cells (zer (9 + z)) 5)).cell? ⟨w.heap.size, 0, none⟩ = some (.int .u8 0) := (cell_block _ _ _ _ _ _ (alloc_new _ _ rfl)).trans (zer_at _ _ (by omega))
  have hf0 : (w.alloc (.cells (zer (9 + z)) 5)).frozen? ⟨w.heap.size, 0, none⟩ = false := frozen_block _ _ _ _ _ (alloc_new _ _ rfl)
  have R1 : Hid (Row (w.alloc (.cells ((zer (9 + z)).setIfInBounds 0 (.int .u8 128)) 5)) w.heap.size 5 .u8 (9 + z) (9 + z) (padf n 0)) := ⟨_, alloc_new _ _ rfl, by simp [zer_size], fun j hj => by
    rw [Array.getElem?_setIfInBounds]
    unfold padf
    by_cases e : 0 = j
    · subst e
      rw [if_pos rfl, if_pos (by rw [zer_size]; omega), if_pos rfl]
    · rw [if_neg e, if_neg (fun h => e h.symm), zer_at _ _ hj, hz]
      split
      · rfl
      · rw [if_neg (by omega)]⟩
  have K1 : Hid (Kept (fun _ => False) w (w.alloc (.cells ((zer (9 + z)).setIfInBounds 0 (.int .u8 128)) 5))) := (Kept.refl _ w).alloc _
  have HZ := hid_of hz
  clear hz
  go_enter Tryd.func56, Tryd.ntmps56
  go_wp2
  clear mk hc0 hf0
  go_loopw [16] (fun i wr => ∃ k : Nat, k ≤ 8 ∧ i = .int .i64 k ∧ Row wr w.heap.size 5 .u8 (9 + z) (9 + z) (padf n k) ∧ Kept (fun _ => False) w wr) (fun i _ => 8 - (intOf i).toNat)
  case atStart => exact ⟨0, by omega, rfl, R1.out, K1.out⟩
  case round =>
    clear R1 K1
    obtain ⟨k, hk, rfl, hR, hK⟩ := hrel
    by_cases hlt : k < 8
    · obtain ⟨⟨u, hu⟩, hf⟩ := hR.there (k := 1 + z + k) (by omega)
      have HR : Hid (Row (wr.setCell ⟨w.heap.size, 1 + z + k, none⟩ (.int .u8 (8 * (n : Int) / 2 ^ (56 - 8 * k) % 256))) w.heap.size 5 .u8 (9 + z) (9 + z) (padf n (k + 1))) := hR.set (by omega) _ (by
          unfold padf
          rw [if_neg (by omega), HZ.out, if_neg (by omega), if_pos (by omega), show 1 + z + k - 1 - z = k by omega]
          rfl) (fun j hj hne => ⟨hj, by
          unfold padf
          rw [HZ.out]
          split
          · rfl
          · split
            · rfl
            · by_cases h : j < 1 + z + k
              · rw [if_pos (by omega), if_pos h]
              · rw [if_neg (by omega), if_neg h]⟩)
      have HK : Hid (Kept (fun _ => False) w (wr.setCell ⟨w.heap.size, 1 + z + k, none⟩ (.int .u8 (8 * (n : Int) / 2 ^ (56 - 8 * k) % 256)))) := hK.setCell (.inl (Nat.le_refl _)) _
      clear hR hK
      have hb0 : (k : Int) < 8 := by omega
      go_wp2
      go_roundw
      case rel => exact ⟨k + 1, by omega, by go_num, HR.out, HK.out⟩
      case measure => simp [intOf]; omega
    · obtain rfl : k = 8 := by omega
      have HK := hid_of hK
      have HP : Hid (wr.heap[w.heap.size]? = some (.cells ((pad n).map (Value.int .u8)).toArray 5 (0, 0))) := by
        obtain ⟨cur, h0, h1, h2⟩ := hR
        obtain rfl := row_list (l := pad n) h1 (by rw [pad_length, HZ.out]) (fun j hj => by rw [h2 j hj, pad_at n j (by rw [HZ.out]; exact hj)])
        exact h0
      clear hR hK
      go_wp2
      go_ret
      exact ⟨by rw [HZ.out]; rfl, HP.out, HK.out⟩
end Go.Proofs.YtjdbmjkidljhpaaDoor

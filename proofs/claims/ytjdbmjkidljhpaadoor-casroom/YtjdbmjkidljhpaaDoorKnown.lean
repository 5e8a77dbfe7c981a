/-
  Of and known by contract.
-/
import Derived.Test.YtjdbmjkidljhpaaDoorOf
import Derived.Lib.SmallJoins
namespace Go.Proofs.YtjdbmjkidljhpaaDoor
open Go.RowKit
set_option linter.unusedVariables false
set_option maxRecDepth 100000
set_option linter.unusedSimpArgs false

/-- A value is a slice of these bytes. -/
def BIn (w : World) (v : Value) (xs : List Int) : Prop :=
  ∃ ao c, v = .slice ao xs.length c ∧ xs.length ≤ c ∧ (xs = [] ∨ ∃ b o, ao = some ⟨b, o, none⟩ ∧ ∀ i, i < xs.length → w.cell? ⟨b, o + i, none⟩ = some (.int .u8 (xs.getD i 0)))
/-- A value is a slice of such slices. -/
def PIn (w : World) (v : Value) (ls : List (List Int)) : Prop :=
  ∃ ao c, v = .slice ao ls.length c ∧ ∀ i, i < ls.length → ∃ b o u, ao = some ⟨b, o, none⟩ ∧ w.cell? ⟨b, o + i, none⟩ = some u ∧ BIn w u (ls.getD i [])

theorem BIn.out {w : World} {v : Value} {xs : List Int} (h : BIn w v xs) (g : Nat) (hg : w.heap.size ≤ g) : BAt w v xs g := by
  obtain ⟨ao, c, rfl, hc, rfl | ⟨b, o, rfl, hx⟩⟩ := h
  · exact .inl ⟨rfl, ao, c, rfl⟩
  · by_cases h0 : xs.length = 0
    · exact .inl ⟨List.eq_nil_of_length_eq_zero h0, _, c, by rw [h0]⟩
    · refine .inr ⟨b, o, c, rfl, hc, ?_, hx⟩
      have := World.block_lt_of_cell? w _ (hx 0 (by omega))
      simp only at this
      omega
theorem BIn.kept {S : Nat → Prop} {w w' : World} {v : Value} {xs : List Int} (h : BIn w v xs) (hk : Kept S w w') (hs : ∀ k, k < w.heap.size → ¬ S k) : BIn w' v xs := by
  obtain ⟨ao, c, rfl, hc, rfl | ⟨b, o, rfl, hx⟩⟩ := h
  · exact ⟨ao, c, rfl, hc, .inl rfl⟩
  · exact ⟨_, c, rfl, hc, .inr ⟨b, o, rfl, fun i hi => hk.cell (hx i hi) (hs _ (World.block_lt_of_cell? w _ (hx i hi)))⟩⟩

theorem Laid.size {w : World} (h : Laid w) : w.heap.size ≠ 0 := by
  have := World.block_lt_of_cell? w _ (h 0 (by decide))
  simp only at this
  omega

theorem flat_take (ls : List (List Int)) (k : Nat) (hk : k < ls.length) : (ls.take (k + 1)).flatten = (ls.take k).flatten ++ ls.getD k [] := by
  rw [List.take_add_one, List.getElem?_eq_getElem hk, List.flatten_append]
  simp [List.getD, List.getElem?_eq_getElem hk]
theorem flat_le (ls : List (List Int)) (k : Nat) : (ls.take k).flatten.length ≤ ls.flatten.length := by
  have := congrArg (fun l => (List.flatten l).length) (List.take_append_drop k ls)
  simp only [List.flatten_append, List.length_append] at this
  omega

set_option maxRecDepth 100000 in
set_option maxHeartbeats 1000000 in
theorem of_any (pv : Value) (ls : List (List Int)) (w : World) (hP : PIn w pv ls) (hr : ∀ l ∈ ls, ∀ x ∈ l, 0 ≤ x ∧ x < 256) (hL : Laid w) (hlen : ls.flatten.length < 1152921504606846976) (hll : ls.length < 9223372036854775807) :
    Calls Tryd.prog 39 #[pv] w fun e w' => e = .returned (.agg ((sha ls.flatten).map (Value.int .u8)).toArray) ∧ Kept (fun _ => False) w w' := by
  obtain ⟨ao, c, rfl, hp⟩ := hP
  have HP := hid_of hp
  have HR := hid_of hr
  have HL := hid_of hL
  have HLEN := hid_of hlen
  have hsz := hL.size
  clear hp hr hL hlen
  go_enter Tryd.func39, Tryd.ntmps39
  go_wp2_with fail
  refine (new_any _).mono ?_
  rintro e w1 ⟨rfl, rfl⟩
  have hH : HashAt ((w.alloc (.cells #[.int .u8 0, .int .u8 0, .int .u8 0, .int .u8 0, .int .u8 0, .int .u8 0, .int .u8 0, .int .u8 0, .int .u8 0, .int .u8 0, .int .u8 0, .int .u8 0, .int .u8 0, .int .u8 0, .int .u8 0, .int .u8 0, .int .u8 0, .int .u8 0, .int .u8 0, .int .u8 0, .int .u8 0, .int .u8 0, .int .u8 0, .int .u8 0, .int .u8 0, .int .u8 0, .int .u8 0, .int .u8 0, .int .u8 0, .int .u8 0, .int .u8 0, .int .u8 0] 28)).alloc (.cells zero51 99 (0, 0))) (w.heap.size + 1) (ls.take 0).flatten := zero_is (alloc_new _ _ (by simp))
  have hK : Kept (fun _ => False) w ((w.alloc (.cells #[.int .u8 0, .int .u8 0, .int .u8 0, .int .u8 0, .int .u8 0, .int .u8 0, .int .u8 0, .int .u8 0, .int .u8 0, .int .u8 0, .int .u8 0, .int .u8 0, .int .u8 0, .int .u8 0, .int .u8 0, .int .u8 0, .int .u8 0, .int .u8 0, .int .u8 0, .int .u8 0, .int .u8 0, .int .u8 0, .int .u8 0, .int .u8 0, .int .u8 0, .int .u8 0, .int .u8 0, .int .u8 0, .int .u8 0, .int .u8 0, .int .u8 0, .int .u8 0] 28)).alloc (.cells zero51 99 (0, 0))) := ((Kept.refl _ w).alloc _).alloc _
  have hD : ((w.alloc (.cells #[.int .u8 0, .int .u8 0, .int .u8 0, .int .u8 0, .int .u8 0, .int .u8 0, .int .u8 0, .int .u8 0, .int .u8 0, .int .u8 0, .int .u8 0, .int .u8 0, .int .u8 0, .int .u8 0, .int .u8 0, .int .u8 0, .int .u8 0, .int .u8 0, .int .u8 0, .int .u8 0, .int .u8 0, .int .u8 0, .int .u8 0, .int .u8 0, .int .u8 0, .int .u8 0, .int .u8 0, .int .u8 0, .int .u8 0, .int .u8 0, .int .u8 0, .int .u8 0] 28)).alloc (.cells zero51 99 (0, 0))).heap[w.heap.size]? = some (.cells #[.int .u8 0, .int .u8 0, .int .u8 0, .int .u8 0, .int .u8 0, .int .u8 0, .int .u8 0, .int .u8 0, .int .u8 0, .int .u8 0, .int .u8 0, .int .u8 0, .int .u8 0, .int .u8 0, .int .u8 0, .int .u8 0, .int .u8 0, .int .u8 0, .int .u8 0, .int .u8 0, .int .u8 0, .int .u8 0, .int .u8 0, .int .u8 0, .int .u8 0, .int .u8 0, .int .u8 0, .int .u8 0, .int .u8 0, .int .u8 0, .int .u8 0, .int .u8 0] 28) := alloc_old (alloc_new _ _ rfl)
  rw [show (w.alloc (.cells #[.int .u8 0, .int .u8 0, .int .u8 0, .int .u8 0, .int .u8 0, .int .u8 0, .int .u8 0, .int .u8 0, .int .u8 0, .int .u8 0, .int .u8 0, .int .u8 0, .int .u8 0, .int .u8 0, .int .u8 0, .int .u8 0, .int .u8 0, .int .u8 0, .int .u8 0, .int .u8 0, .int .u8 0, .int .u8 0, .int .u8 0, .int .u8 0, .int .u8 0, .int .u8 0, .int .u8 0, .int .u8 0, .int .u8 0, .int .u8 0, .int .u8 0, .int .u8 0] 28)).heap.size = w.heap.size + 1 by simp]
  generalize (w.alloc (.cells #[.int .u8 0, .int .u8 0, .int .u8 0, .int .u8 0, .int .u8 0, .int .u8 0, .int .u8 0, .int .u8 0, .int .u8 0, .int .u8 0, .int .u8 0, .int .u8 0, .int .u8 0, .int .u8 0, .int .u8 0, .int .u8 0, .int .u8 0, .int .u8 0, .int .u8 0, .int .u8 0, .int .u8 0, .int .u8 0, .int .u8 0, .int .u8 0, .int .u8 0, .int .u8 0, .int .u8 0, .int .u8 0, .int .u8 0, .int .u8 0, .int .u8 0, .int .u8 0] 28)).alloc (.cells zero51 99 (0, 0)) = w1 at *
  have HH := hid_of hH
  have HK := hid_of hK
  have HD := hid_of hD
  clear hH hK hD
  go_wp2_with fail
  go_loopw [9] (fun i wr => ∃ k : Nat, k ≤ ls.length ∧ i = .int .i64 k ∧ HashAt wr (w.heap.size + 1) (ls.take k).flatten ∧ Kept (fun _ => False) w wr ∧ wr.heap[w.heap.size]? = some (.cells #[.int .u8 0, .int .u8 0, .int .u8 0, .int .u8 0, .int .u8 0, .int .u8 0, .int .u8 0, .int .u8 0, .int .u8 0, .int .u8 0, .int .u8 0, .int .u8 0, .int .u8 0, .int .u8 0, .int .u8 0, .int .u8 0, .int .u8 0, .int .u8 0, .int .u8 0, .int .u8 0, .int .u8 0, .int .u8 0, .int .u8 0, .int .u8 0, .int .u8 0, .int .u8 0, .int .u8 0, .int .u8 0, .int .u8 0, .int .u8 0, .int .u8 0, .int .u8 0] 28)) (fun i _ => ls.length - (intOf i).toNat)
  case atStart => exact ⟨0, by omega, rfl, HH.out, HK.out, HD.out⟩
  case round =>
    clear HH HK HD
    obtain ⟨k, hk, rfl, hH, hK, hD⟩ := hrel
    by_cases hlt : k < ls.length
    · obtain ⟨b, o, u, rfl, hu, hB⟩ := HP.out k hlt
      have hu' := hK.cell hu (fun f => f)
      have hmem : ls.getD k [] ∈ ls := by
        rw [List.getD, List.getElem?_eq_getElem hlt]
        simp
      have hle := flat_le ls (k + 1)
      rw [flat_take ls k hlt, List.length_append] at hle
      have hw := write_any (w.heap.size + 1) _ _ u wr hH ((hB.out (w.heap.size + 1) (by omega)).kept hK (fun _ f => f.elim)) (HR.out _ hmem) (laid_kept HL.out hK (fun f => f)) (by omega) (by have := HLEN.out; omega)
      rw [← flat_take ls k hlt] at hw
      have HW := hid_of hw
      have HK := hid_of hK
      have HD := hid_of hD
      clear hw hH hK hD hB hmem hle hu
      have hkI : (k : Int) < (ls.length : Int) := by omega
      go_wp2_with fail
      refine HW.out.mono ?_
      rintro e w2 ⟨rfl, hH2, hk2⟩
      have HH2 := hid_of hH2
      have HK2 : Hid (Kept (fun _ => False) w w2) := HK.out.step hk2 (fun i hi e => by omega)
      have HD2 := hid_of ((hk2.block _ (heap_lt HD.out) (by omega)).trans HD.out)
      clear hH2 hk2 HW HK HD
      go_wp2
      go_roundw
      case rel => exact ⟨k + 1, by omega, by go_num, HH2.out, HK2.out, HD2.out⟩
      case measure => simp [intOf]; omega
    · obtain rfl : k = ls.length := by omega
      rw [List.take_length] at hH
      have hs := sum_any (w.heap.size + 1) ls.flatten wr hH (laid_kept HL.out hK (fun f => f)) (by have := hK.size; omega) HLEN.out
      have HS := hid_of hs
      have HK := hid_of hK
      have HD := hid_of hD
      clear hs hH hK hD
      go_wp2_with fail
      refine HS.out.mono ?_
      rintro e w5 ⟨rfl, hk5⟩
      have hO5 := (hk5.block _ (heap_lt HD.out) (fun f => f)).trans HD.out
      have hK5 := HK.out.trans hk5
      have h1' := oneCells .u8 (sha ls.flatten)
      have hsl : (sha ls.flatten).length = 32 := by simp [sha, dig]
      have hs28 : (Tryd.prog.info? 28).map (·.size) = some ((sha ls.flatten).map (Value.int .u8)).toArray.size := by simp [size28, hsl]
      have hos : 32 = ((sha ls.flatten).map (Value.int .u8)).toArray.size := by simp [hsl]
      have HKR : Hid (Kept (fun _ => False) w (w5.setRow w.heap.size ((sha ls.flatten).map (Value.int .u8)).toArray)) := hK5.setRow (.inl (Nat.le_refl _)) _
      have HRR := hid_of (setRow_heap w5 w.heap.size _ ((sha ls.flatten).map (Value.int .u8)).toArray 28 (0, 0) hO5)
      clear hK5 hk5 HS hsl
      generalize hcs : ((sha ls.flatten).map (Value.int .u8)).toArray = cs at *
      have HC := hid_of hcs
      clear hcs
      go_wp2_with (refine wpList_store_row rfl 28 _ _ rfl w.heap.size cs rfl rfl 28 _ hO5 hs28 hos h1' ?_)
      try simp only [Act.put]
      refine bodyPost_ret (v := .agg cs) ?_ rfl ⟨by rw [HC.out], HKR.out⟩
      exact results_cell_row (by rfl) _ _ w.heap.size 28 cs (0, 0) _ (by rfl) HRR.out Tryd.underlying28 rfl hs28

def abcDigest : List Int := [186, 120, 22, 191, 143, 1, 207, 234, 65, 65, 64, 222, 93, 174, 34, 35, 176, 3, 97, 163, 150, 23, 122, 156, 180, 16, 255, 97, 242, 0, 21, 173]
theorem sha_abc : sha [97, 98, 99] = abcDigest := by decide +kernel

theorem bin_new {w : World} {b n c : Nat} {xs : List Int} {t : TypeId} {f : Nat × Nat} (h : w.heap[b]? = some (.cells (xs.map (Value.int .u8)).toArray t f)) (hn : n = xs.length) (hc : n ≤ c) : BIn w (.slice (some ⟨b, 0, none⟩) n c) xs := by
  subst hn
  refine ⟨_, c, rfl, hc, .inr ⟨b, 0, rfl, fun i hi => ?_⟩⟩
  rw [cell_block _ _ _ _ _ _ h]
  simp [List.getD, List.getElem?_eq_getElem hi]

theorem pin_one {w : World} {b : Nat} {u : Value} {xs : List Int} {t : TypeId} {f : Nat × Nat} (h : w.heap[b]? = some (.cells #[u] t f)) (hB : BIn w u xs) : PIn w (.slice (some ⟨b, 0, none⟩) 1 1) [xs] := by
  refine ⟨_, 1, rfl, fun i hi => ⟨b, 0, u, rfl, ?_, ?_⟩⟩
  · obtain rfl : i = 0 := by simpa using hi
    rw [cell_block _ _ _ _ _ _ h]
    rfl
  · obtain rfl : i = 0 := by simpa using hi
    exact hB

/-- Of bytes that lie somewhere, as the only part. -/
theorem of_one (u : Value) (xs : List Int) (w : World) (b : Nat) {t : TypeId} {f : Nat × Nat} (h : w.heap[b]? = some (.cells #[u] t f)) (hB : BIn w u xs) (hr : ∀ x ∈ xs, 0 ≤ x ∧ x < 256) (hL : Laid w) (hlen : xs.length < 1152921504606846976) :
    Calls Tryd.prog 39 #[.slice (some ⟨b, 0, none⟩) 1 1] w fun e w' => e = .returned (.agg ((sha xs).map (Value.int .u8)).toArray) ∧ Kept (fun _ => False) w w' := by
  have := of_any _ [xs] w (pin_one h hB) (fun l hl x hx => hr x (by rw [List.mem_singleton.1 hl] at hx; exact hx)) hL (by simpa using hlen) (by simp)
  simpa using this

theorem of_abc (u : Value) (w : World) (b : Nat) {t : TypeId} {f : Nat × Nat} (h : w.heap[b]? = some (.cells #[u] t f)) (hB : BIn w u [97, 98, 99]) (hL : Laid w) :
    ∃ cs : Array Value, cs.size = 32 ∧ cs[0]? = some (.int .u8 186) ∧ cs[1]? = some (.int .u8 120) ∧ cs[31]? = some (.int .u8 173) ∧ cs.all (·.oneCell') = true ∧
    Calls Tryd.prog 39 #[.slice (some ⟨b, 0, none⟩) 1 1] w fun e w' => e = .returned (.agg cs) ∧ Kept (fun _ => False) w w' := by
  refine ⟨(abcDigest.map (Value.int .u8)).toArray, rfl, rfl, rfl, rfl, oneCells _ _, ?_⟩
  have := of_one u [97, 98, 99] w b h hB (by decide) hL (by decide)
  rw [sha_abc] at this
  exact this

end Go.Proofs.YtjdbmjkidljhpaaDoor

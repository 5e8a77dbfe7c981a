/-
  turned, round of the reference by contract; words out of bytes.
-/
import Derived.Test.YtjdbmjkidljhpaaDoorOf
import Derived.Laws.BitsAllLaws
namespace Go.Proofs.YtjdbmjkidljhpaaDoor
open Go.RowKit
set_option linter.unusedVariables false
set_option maxRecDepth 100000
set_option linter.unusedSimpArgs false

theorem or_comm32 (a b : Int) : bits .or .u32 a b = bits .or .u32 b a := by
  unfold bits
  simp only [BitVec.or_comm]

set_option maxRecDepth 100000 in
set_option maxHeartbeats 1000000 in
theorem rturned_any (x : Int) (n : Nat) (h0 : 0 < n) (h1 : n < 32) (w : World) :
    Calls Tryd.prog 58 #[.int .u32 x, .int .i64 (n : Int)] w fun e w' => e = .returned (.int .u32 (ror x n)) ∧ Kept (fun _ => False) w w' := by
  have hb : (n : Int) < 32 := by omega
  have hn : (32 - (n : Int)).toNat = 32 - n := by omega
  go_enter Tryd.func58, Tryd.ntmps58
  go_wp2
  go_quiet (fail)
  go_wp2
  go_ret
  refine ⟨?_, kept_drewN (Kept.refl _ w) _⟩
  show Ending.returned (Value.int .u32 (bits .or .u32 (x / 2 ^ n) (x * 2 ^ (32 - n) % 4294967296))) = _
  rw [or_comm32]
  rfl
theorem rturned_int (x i : Int) (h0 : 0 < i) (h1 : i < 32) (w : World) :
    Calls Tryd.prog 58 #[.int .u32 x, .int .i64 i] w fun e w' => e = .returned (.int .u32 (ror x i.toNat)) ∧ Kept (fun _ => False) w w' := by
  obtain ⟨n, rfl⟩ := Int.eq_ofNat_of_zero_le (show 0 ≤ i by omega)
  exact rturned_any x n (by omega) (by omega) w

set_option maxRecDepth 100000 in
set_option maxHeartbeats 1000000 in
theorem rround_any (t : Nat) (ht : t < 64) (w : World) :
    Calls Tryd.prog 59 #[.int .i64 (t : Int)] w fun e w' => e = .returned (.int .u32 (kw.getD t 0)) ∧ Kept (fun _ => False) w w' := by
  have hkl : (kw.map (Value.int .u32)).toArray.size = 64 := rfl
  have hs79 : (Tryd.prog.info? 104).map (·.size) = some (kw.map (Value.int .u32)).toArray.size := by rw [size79, hkl]
  have h1 := oneCells .u32 kw
  have HC : Hid ((w.alloc (.cells (kw.map (Value.int .u32)).toArray 104)).cell? ⟨w.heap.size, t, none⟩ = some (.int .u32 (kw.getD t 0))) := by
    show _ = _
    rw [cell_block _ _ _ _ _ _ (alloc_new _ _ rfl)]
    have hk : t < kw.length := ht
    simp [List.getD, List.getElem?_eq_getElem hk]
  have htI : (t : Int) < 64 := by omega
  go_enter Tryd.func59, Tryd.ntmps59
  go_wp2_with (first | (refine wpList_store_row rfl 104 _ _ rfl w.heap.size (kw.map (Value.int .u32)).toArray rfl rfl 104 _ (alloc_new _ _ rfl) hs79 rfl h1 ?_; rw [setRow_new _ _ _ _ rfl]))
  go_ret
  refine ⟨?_, (Kept.refl _ w).alloc _⟩
  have hk : t < kw.length := ht
  rw [show kw.getD t 0 = kw[t]'hk by simp [List.getD, List.getElem?_eq_getElem hk]]
  rfl
theorem or_add32 (a b k : Nat) (hb : b < 2 ^ k) (ht : 2 ^ k * a + b < 4294967296) : bits .or .u32 ((2 ^ k * a : Nat) : Int) (b : Int) = ((2 ^ k * a + b : Nat) : Int) := by
  rw [u32_or_nat _ _ (by omega) (by omega), Nat.two_pow_add_eq_or_of_lt hb]
theorem word_is (bs : List Int) (hr : ∀ x ∈ bs, 0 ≤ x ∧ x < 256) (hl : bs.length = 64) (t : Nat) (ht : t < 16) (b0 b1 b2 b3 : Int) (h0 : bs.getD (4 * t) 0 = b0) (h1 : bs.getD (4 * t + 1) 0 = b1) (h2 : bs.getD (4 * t + 2) 0 = b2) (h3 : bs.getD (4 * t + 3) 0 = b3) :
    bits .or .u32 (bits .or .u32 (bits .or .u32 (b0 * 16777216 % 4294967296) (b1 * 65536 % 4294967296)) (b2 * 256 % 4294967296)) (b3 % 4294967296) = word bs t := by
  have key : ∀ j, j < 64 → ∃ c : Nat, c < 256 ∧ bs.getD j 0 = (c : Int) := fun j hj => by
    have := hr (bs.getD j 0) (by rw [List.getD, List.getElem?_eq_getElem (by omega)]; simp)
    exact ⟨(bs.getD j 0).toNat, by omega, by omega⟩
  obtain ⟨c0, k0, e0⟩ := key (4 * t) (by omega)
  obtain ⟨c1, k1, e1⟩ := key (4 * t + 1) (by omega)
  obtain ⟨c2, k2, e2⟩ := key (4 * t + 2) (by omega)
  obtain ⟨c3, k3, e3⟩ := key (4 * t + 3) (by omega)
  subst h0 h1 h2 h3
  unfold word up
  rw [e0, e1, e2, e3]
  have s1 : bits .or .u32 ((0 : Int) * 256 % 4294967296) (c0 : Int) = (c0 : Int) := by
    have := or_add32 0 c0 8 (by omega) (by omega)
    simpa using this
  have s2 : bits .or .u32 ((c0 : Int) * 256 % 4294967296) (c1 : Int) = ((256 * c0 + c1 : Nat) : Int) := by
    have := or_add32 c0 c1 8 (by omega) (by omega)
    rw [show ((c0 : Int) * 256 % 4294967296) = ((2 ^ 8 * c0 : Nat) : Int) by omega, this]
  have s3 : bits .or .u32 (((256 * c0 + c1 : Nat) : Int) * 256 % 4294967296) (c2 : Int) = ((256 * (256 * c0 + c1) + c2 : Nat) : Int) := by
    have := or_add32 (256 * c0 + c1) c2 8 (by omega) (by omega)
    rw [show (((256 * c0 + c1 : Nat) : Int) * 256 % 4294967296) = ((2 ^ 8 * (256 * c0 + c1) : Nat) : Int) by omega, this]
  have s4 : bits .or .u32 (((256 * (256 * c0 + c1) + c2 : Nat) : Int) * 256 % 4294967296) (c3 : Int) = ((256 * (256 * (256 * c0 + c1) + c2) + c3 : Nat) : Int) := by
    have := or_add32 (256 * (256 * c0 + c1) + c2) c3 8 (by omega) (by omega)
    rw [show (((256 * (256 * c0 + c1) + c2 : Nat) : Int) * 256 % 4294967296) = ((2 ^ 8 * (256 * (256 * c0 + c1) + c2) : Nat) : Int) by omega, this]
  rw [s1, s2, s3, s4]
  have r1 : bits .or .u32 ((c0 : Int) * 16777216 % 4294967296) ((c1 : Int) * 65536 % 4294967296) = ((65536 * (256 * c0 + c1) : Nat) : Int) := by
    have := or_add32 c0 (65536 * c1) 24 (by omega) (by omega)
    rw [show ((c0 : Int) * 16777216 % 4294967296) = ((2 ^ 24 * c0 : Nat) : Int) by omega, show ((c1 : Int) * 65536 % 4294967296) = ((65536 * c1 : Nat) : Int) by omega, this]
    omega
  have r2 : bits .or .u32 ((65536 * (256 * c0 + c1) : Nat) : Int) ((c2 : Int) * 256 % 4294967296) = ((256 * (256 * (256 * c0 + c1) + c2) : Nat) : Int) := by
    have := or_add32 (256 * c0 + c1) (256 * c2) 16 (by omega) (by omega)
    rw [show ((65536 * (256 * c0 + c1) : Nat) : Int) = ((2 ^ 16 * (256 * c0 + c1) : Nat) : Int) by omega, show ((c2 : Int) * 256 % 4294967296) = ((256 * c2 : Nat) : Int) by omega, this]
    omega
  have r3 : bits .or .u32 ((256 * (256 * (256 * c0 + c1) + c2) : Nat) : Int) ((c3 : Int) % 4294967296) = ((256 * (256 * (256 * c0 + c1) + c2) + c3 : Nat) : Int) := by
    have := or_add32 (256 * (256 * c0 + c1) + c2) c3 8 (by omega) (by omega)
    rw [show ((256 * (256 * (256 * c0 + c1) + c2) : Nat) : Int) = ((2 ^ 8 * (256 * (256 * c0 + c1) + c2) : Nat) : Int) by omega, show ((c3 : Int) % 4294967296) = (c3 : Int) by omega, this]
  rw [r1, r2, r3]
end Go.Proofs.YtjdbmjkidljhpaaDoor

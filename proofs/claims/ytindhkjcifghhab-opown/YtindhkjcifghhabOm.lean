/-
  operands by contract: the list of each instruction's kind.
-/
import Derived.Test.YtindhkjcifghhabOl
import Derived.Test.YtindhkjcifghhabOd
namespace Go.Proofs.Ytindhkjcifghhab
open Go.RowKit
set_option linter.unusedVariables false
set_option linter.unusedSimpArgs false
set_option maxRecDepth 100000

theorem kept_cells (g : Nat) : ∀ (vs : List Value) (o : Nat) (w : World), Kept (fun k => k = g) w (w.setCells g o vs)
  | [], o, w => Kept.refl _ _
  | v :: r, o, w => (kept_set w g o v).trans (kept_cells g r (o + 1) (w.setCell ⟨g, o, none⟩ v))
theorem there_sub {w : World} {g n o m : Nat} (h : w.there g 0 n) (hm : o + m ≤ n) : w.there g o m := fun j hj => by
  have := h (o + j) (by omega)
  rwa [Nat.zero_add] at this
theorem range_kept {S : Nat → Prop} {w w' : World} {g o : Nat} {cs : List Value} (h : w.rangeAt g o cs) (hk : Kept S w w') (hS : ¬ S g) : w'.rangeAt g o cs := fun j v hv => hk.cell (h j v hv) hS

/-- The kind of an instruction's operand. -/
def kix (i : Nat) : Nat := (insL.getD i Sh.none).o.toNat
theorem kix_lt : ∀ i, i < 46 → kix i ≤ 6 ∧ (insL.getD i Sh.none).o = (kix i : Int) := by
  intro i hi
  revert i
  unfold kix
  decide +kernel
/-- The list of kinds lies at block g, their ends in boxes. -/
structure OpsAt (w : World) (g : Nat) (bx : Nat → Nat) : Prop where
  row : ∀ i, i < 46 → w.rangeAt g (i * 3) (kindL bx (kix i))
  box : Boxes w bx
theorem OpsAt.kept {S : Nat → Prop} {w w' : World} {g : Nat} {bx : Nat → Nat} (h : OpsAt w g bx) (hk : Kept S w w') (hg : ¬ S g) (hS : ∀ k, 2 ≤ k → k ≤ 6 → ¬ S (bx k)) : OpsAt w' g bx :=
  ⟨fun i hi => range_kept (h.row i hi) hk hg, h.box.kept hk hS⟩

theorem kinds_at (bx : Nat → Nat) : ∀ k, k ≤ 6 → ∀ j v, (kindL bx k)[j]? = some v → (kindsL bx)[k * 3 + j]? = some v := by
  intro k hk j v hv
  have hj : j < 3 := by
    have := (List.getElem?_eq_some_iff.1 hv).1
    rwa [kind_len] at this
  match k, hk, j, hj with
  | 0, _, 0, _ => exact hv
  | 0, _, 1, _ => exact hv
  | 0, _, 2, _ => exact hv
  | 1, _, 0, _ => exact hv
  | 1, _, 1, _ => exact hv
  | 1, _, 2, _ => exact hv
  | 2, _, 0, _ => exact hv
  | 2, _, 1, _ => exact hv
  | 2, _, 2, _ => exact hv
  | 3, _, 0, _ => exact hv
  | 3, _, 1, _ => exact hv
  | 3, _, 2, _ => exact hv
  | 4, _, 0, _ => exact hv
  | 4, _, 1, _ => exact hv
  | 4, _, 2, _ => exact hv
  | 5, _, 0, _ => exact hv
  | 5, _, 1, _ => exact hv
  | 5, _, 2, _ => exact hv
  | 6, _, 0, _ => exact hv
  | 6, _, 1, _ => exact hv
  | 6, _, 2, _ => exact hv

/-- So many empty kinds, as make lays them. -/
def z74 : Array Value := madeCells (Value.agg #[.nilFunc, .nilFunc, .nilFunc]).cells 138
theorem z74_size : z74.size = 138 := size_madeCells _ _
theorem Try.info59 : (Try.prog.info? 59).map (fun i => (i.zero, i.size, i.bytes)) = some (some (.agg #[.nilFunc, .nilFunc, .nilFunc]), 3, 24) := by kernel_rfl
theorem make74 (W : World) : (Instr.makeSlice 51 (.int .i64 46) (.int .i64 46)).run Try.prog W = .ok (.slice (some ⟨W.heap.size, 0, none⟩) 46 46) (W.alloc (.cells z74 59)) := by
  obtain ⟨i0, hi, hz0, hz1, hz2⟩ := info_parts Try.info59
  have := run_make (P := Try.prog) W 51 59 i0 _ Try.underlying51 hi hz0 .i64 .i64 46 46 (by omega) (by omega) (by rw [hz2]; omega) (by omega)
  simpa [z74, hz1] using this

set_option maxHeartbeats 8000000 in
theorem operands_any (w : World) : Calls Try.prog 17 #[] w fun e w' => ∃ g bx, e = .returned (.slice (some ⟨g, 0, none⟩) 46 46) ∧ OpsAt w' g bx ∧ w.heap.size ≤ g ∧ (∀ k, 2 ≤ k → k ≤ 6 → w.heap.size ≤ bx k) ∧ Kept (fun _ => False) w w' := by
  go_enter Try.func17, Try.ntmps17
  go_wp2_with fail
  refine (kinds_any w).mono ?_
  rintro e w1 ⟨bx, rfl, hbx, hlo, hk1⟩
  obtain ⟨hO, hX, hK⟩ := new_row w1 z92 (kindsL bx).toArray 79
  go_upto_region 2 with (first | refine wpList_to rfl (some 1) rfl (.pointer (some ⟨w1.heap.size, 0, none⟩)) (w1.alloc (.cells z92 79)) (by kernel_rfl) ?_ | refine wpList_store_row rfl 79 _ _ rfl w1.heap.size (kindsL bx).toArray rfl rfl 79 _ hO (size92 bx) (by kernel_rfl) (kinds_one bx) ?_)
  clear hO
  have hs1 := hk1.size
  generalize (w1.alloc (.cells z92 79)).setRow w1.heap.size (kindsL bx).toArray = w2 at *
  have HLO := hid_of hlo
  have HB2 := hid_of (hbx.kept hK (fun _ _ _ f => f))
  have HK2 := hid_of (hk1.trans hK)
  have HA2 := hid_of hX
  generalize w1.heap.size = A at *
  have mk := make74 w2
  clear hbx hlo hk1 hK hX
  go_upto_region 3 with fail
  have HG3 : Hid ((w2.alloc (.cells z74 59)).there w2.heap.size 0 138) := fun j hj => by
    have hb := heap_alloc_new w2 (.cells z74 59)
    rw [Nat.zero_add]
    refine ⟨?_, frozen_block _ _ _ _ _ hb⟩
    rw [cell_block _ _ _ _ _ _ hb, Array.getElem?_eq_getElem (by rw [z74_size]; exact hj)]
    rfl
  have hkA : Kept (fun _ => False) w2 (w2.alloc (.cells z74 59)) := (Kept.refl _ _).alloc _
  have HB3 := hid_of (HB2.out.kept hkA (fun _ _ _ f => f))
  have HA3 := hid_of (box_kept hkA HA2.out (fun f => f))
  have HK3 := hid_of (HK2.out.trans hkA)
  have HGW : Hid (w.heap.size ≤ w2.heap.size) := HK2.out.size
  have HAG : Hid (A < w2.heap.size ∧ ∀ k, 2 ≤ k → k ≤ 6 → bx k < w2.heap.size) := ⟨(Array.getElem?_eq_some_iff.1 HA2.out).1, fun k h1 h2 => (Array.getElem?_eq_some_iff.1 (HB2.out k h1 h2)).1⟩
  clear mk HB2 HA2 HK2 hkA
  generalize w2.alloc (.cells z74 59) = w3 at *
  generalize w2.heap.size = g at *
  go_wp2_with fail
  refine (ins_any w3).mono ?_
  rintro e w4 ⟨rfl, hk4⟩
  have HG4 : Hid (w4.there g 0 138) := fun j hj => by
    obtain ⟨h1, h2⟩ := HG3.out j hj
    obtain ⟨v, hv⟩ := Option.isSome_iff_exists.1 h1
    have hc := hk4.cell hv (fun f => f)
    refine ⟨by rw [hc]; rfl, ?_⟩
    rw [← h2]
    have hb := hk4.block g (block_lt_of_cell hv) (fun f => f)
    simp only [World.frozen?, hb]
  have HB4 := hid_of (HB3.out.kept hk4 (fun _ _ _ f => f))
  have HA4 := hid_of (box_kept hk4 HA3.out (fun f => f))
  have HK4 := hid_of (HK3.out.trans hk4)
  clear hk4 HG3 HB3 HA3 HK3
  generalize hT : (tcells insL).toArray = T
  have HT := hid_of hT
  clear hT
  go_wp2
  go_loopw [8] (fun i wr => ∃ k : Nat, k ≤ 46 ∧ i = .int .i64 (k : Int) ∧ wr.there g 0 138 ∧ (∀ i, i < k → wr.rangeAt g (i * 3) (kindL bx (kix i))) ∧ wr.heap[A]? = some (.cells (kindsL bx).toArray 79 (0, 0)) ∧ Boxes wr bx ∧ Kept (fun _ => False) w wr) (fun i _ => 46 - (intOf i).toNat)
  case atStart => exact ⟨0, by omega, rfl, HG4.out, fun i hi => absurd hi (by omega), HA4.out, HB4.out, HK4.out⟩
  case round =>
    obtain ⟨k, hk, rfl, hth, hrs, hA, hB, hKe⟩ := hrel
    by_cases hlt : k < 46
    · have hki : (k : Int) < 46 := by omega
      have hix := run_ix57 wr k hlt
      rw [HT.out] at hix
      obtain ⟨hm6, hmo⟩ := kix_lt k hlt
      have HKX : Hid (kix k = kix k) := rfl
      generalize hm : kix k = m at *
      have HM := hid_of hm
      generalize insL.getD k Sh.none = x at *
      obtain ⟨nm, o, ta, gi⟩ := x
      obtain rfl : o = (m : Int) := hmo
      rw [sh_lit] at hix
      have hkA : Kept (fun _ => False) wr (wr.alloc (.cells #[.string nm, .int .i64 (m : Int), .int .i64 ta, .int .i64 gi] 81)) := (Kept.refl _ _).alloc _
      have hr1 : (wr.alloc (.cells #[.string nm, .int .i64 (m : Int), .int .i64 ta, .int .i64 gi] 81)).rangeAt A (m * 3) (kindL bx m) := fun j v hv => by
        rw [cell_block _ _ _ _ _ _ (box_kept hkA hA (fun f => f))]
        have := kinds_at bx m hm6 j v hv
        simpa using this
      have ht1 : (wr.alloc (.cells #[.string nm, .int .i64 (m : Int), .int .i64 ta, .int .i64 gi] 81)).there g (k * 3) (kindL bx m).toArray.size := by
        rw [List.size_toArray, kind_len]
        exact there_sub (World.there_alloc hth _) (by omega)
      have hsz : (Try.prog.info? 59).map (·.size) = some (kindL bx m).toArray.size := by rw [size74, List.size_toArray, kind_len]
      have hszl : (Try.prog.info? 59).map (·.size) = some (kindL bx m).length := by rw [size74, kind_len]
      have hmI : (m : Int) < 7 := by omega
      have HIN : Hid (∀ w', w' = ((wr.alloc (.cells #[.string nm, .int .i64 (m : Int), .int .i64 ta, .int .i64 gi] 81)).setCells g (k * 3) (kindL bx m).toArray.toList) → w'.there g 0 138 ∧ (∀ i, i < k + 1 → w'.rangeAt g (i * 3) (kindL bx (kix i))) ∧ w'.heap[A]? = some (.cells (kindsL bx).toArray 79 (0, 0)) ∧ Boxes w' bx ∧ Kept (fun _ => False) w w') := by
        rintro w' rfl
        have hks := kept_cells g (kindL bx m).toArray.toList (k * 3) (wr.alloc (.cells #[.string nm, .int .i64 (m : Int), .int .i64 ta, .int .i64 gi] 81))
        refine ⟨World.there_setCells (World.there_alloc hth _) _ _ _, fun i hi => ?_, box_kept hks (box_kept hkA hA (fun f => f)) (by have := HAG.out.1; omega), (hB.kept hkA (fun _ _ _ f => f)).kept hks (fun q h1 h2 => by have := HAG.out.2 q h1 h2; omega), (hKe.trans hkA).step hks (fun i hi e => by have := HGW.out; omega)⟩
        by_cases e : i = k
        · subst e
          rw [HM.out]
          exact World.rangeAt_setCells_same _ _ _ _ (by simpa using ht1)
        · exact World.rangeAt_setCells_apart (World.rangeAt_alloc (hrs i (by omega)) _) _ _ _ (.inr (.inl (by rw [kind_len]; omega)))
      clear hth hrs hA hB hKe hkA HG4 HA4 HB4 HK4
      go_wp2_with (first | refine wpList_load_mid rfl 59 _ rfl A (m * 3) rfl (kindL bx m) _ hr1 Try.underlying59 rfl hszl ?_ | refine wpList_store_mid rfl 59 _ _ rfl g (k * 3) (kindL bx m).toArray rfl rfl ht1 hsz (kind_one bx m) ?_)
      go_roundw
      case rel => exact ⟨k + 1, by omega, by go_num, HIN.out _ rfl⟩
      case measure => simp [intOf]; omega
    · have hki : (46 : Int) ≤ (k : Int) := by omega
      have HO : Hid (OpsAt wr g bx) := ⟨fun i hi => hrs i (by omega), hB⟩
      have HK9 := hid_of hKe
      clear hth hrs hA hB hKe HG4 HA4 HB4 HK4 hlt hk
      go_wp2
      go_ret
      exact ⟨g, bx, rfl, HO.out, HGW.out, HLO.out, HK9.out⟩
end Go.Proofs.Ytindhkjcifghhab

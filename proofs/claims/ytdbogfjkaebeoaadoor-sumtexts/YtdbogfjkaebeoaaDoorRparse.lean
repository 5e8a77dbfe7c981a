/-
  Parse of the reference by contract.
-/
import Derived.Test.YtdbogfjkaebeoaaDoorParse
import Derived.Test.YtdbogfjkaebeoaaDoorRcutA
import Derived.Test.YtdbogfjkaebeoaaDoorRtext
namespace Go.Proofs.YtdbogfjkaebeoaaDoor
open Go.RowKit
set_option linter.unusedVariables false
set_option linter.unusedSimpArgs false

theorem half_hexd_nat : ∀ n : Nat, n < 16 → half (hexd n) = n := by decide
theorem hexd_half_nat : ∀ c : Nat, c < 256 → 0 ≤ half c → hexd (half c) = c := by decide +kernel
theorem letter_range (s : ByteArray) (k : Nat) : 0 ≤ letter s k ∧ letter s k < 256 := by
  unfold letter
  have := (s[k]!).toNat_lt
  omega
theorem letter_hexd (s : ByteArray) (k m : Nat) (hm : m < 16) : letter s k = hexd m ↔ hv s k = m := by
  have hr := letter_range s k
  unfold hv
  constructor
  · intro h
    rw [h]
    exact half_hexd_nat m hm
  · intro h
    obtain ⟨c, hc⟩ := Int.eq_ofNat_of_zero_le hr.1
    rw [hc] at h ⊢
    have := hexd_half_nat c (by omega) (by omega)
    rw [h] at this
    exact this.symm

/-- The digest's byte j behind i letters and m trials. -/
def dIn (s : ByteArray) (k m j : Nat) : Int := if j = k / 2 ∧ 0 ≤ hv s k ∧ hv s k < m then 16 * dAt s k (k / 2) + hv s k else dAt s k j
theorem dIn_zero (s : ByteArray) (k : Nat) : dIn s k 0 = dAt s k := by
  funext j
  unfold dIn
  rw [if_neg]
  rintro ⟨_, h1, h2⟩
  omega
theorem dIn_hit (s : ByteArray) (k : Nat) (h : 0 ≤ hv s k) : dIn s k 16 = dAt s (k + 1) := by
  have hl : hv s k < 16 := half_lt _
  funext j
  unfold dIn
  by_cases e : j = k / 2
  · rw [if_pos ⟨e, h, hl⟩, e, dAt_step]
  · rw [if_neg (fun x => e x.1), dAt_other s k j e]
theorem dIn_miss (s : ByteArray) (k m : Nat) (h : hv s k ≠ m) : dIn s k (m + 1) = dIn s k m := by
  funext j
  unfold dIn
  by_cases e : j = k / 2 ∧ 0 ≤ hv s k ∧ hv s k < m
  · rw [if_pos e, if_pos ⟨e.1, e.2.1, by omega⟩]
  · rw [if_neg e, if_neg (fun x => e ⟨x.1, x.2.1, by omega⟩)]
theorem dIn_old (s : ByteArray) (k m : Nat) (h : hv s k = m) : dIn s k m = dAt s k := by
  funext j
  unfold dIn
  rw [if_neg]
  rintro ⟨_, h1, h2⟩
  omega
theorem dIn_at (s : ByteArray) (k m : Nat) (h : hv s k = m) : dIn s k (m + 1) (k / 2) = 16 * dAt s k (k / 2) + m := by
  unfold dIn
  rw [if_pos ⟨rfl, by omega, by omega⟩, h]
theorem dIn_other (s : ByteArray) (k m j : Nat) (hj : j ≠ k / 2) : dIn s k (m + 1) j = dAt s k j := by
  unfold dIn
  rw [if_neg (fun x => hj x.1)]

/-- Was the letter found among the first m? -/
def fnd (s : ByteArray) (k m : Nat) : Bool := decide (0 ≤ hv s k ∧ hv s k < m)
theorem fnd_zero (s : ByteArray) (k : Nat) : fnd s k 0 = false := by
  unfold fnd
  rw [decide_eq_false_iff_not]
  rintro ⟨_, _⟩
  omega
theorem fnd_miss (s : ByteArray) (k m : Nat) (h : hv s k ≠ m) : fnd s k (m + 1) = fnd s k m := by
  unfold fnd
  apply decide_eq_decide.2
  constructor <;> rintro ⟨a, b⟩ <;> exact ⟨a, by omega⟩
theorem fnd_hit (s : ByteArray) (k m : Nat) (h : hv s k = m) : fnd s k (m + 1) = true := by
  unfold fnd
  rw [decide_eq_true_iff]
  omega
theorem fnd_all (s : ByteArray) (k : Nat) (h : 0 ≤ hv s k) : fnd s k 16 = true := by
  have hl : hv s k < 16 := half_lt _
  unfold fnd
  rw [decide_eq_true_iff]
  omega
theorem fnd_none (s : ByteArray) (k : Nat) (h : hv s k < 0) : fnd s k 16 = false := by
  unfold fnd
  rw [decide_eq_false_iff_not]
  omega

set_option maxRecDepth 100000 in
set_option maxHeartbeats 1000000 in
theorem rparse_len (s : ByteArray) (hs : s.size ≠ 64) (w : World) :
    Calls Tryd.prog 30 #[.string s] w fun e w' => e = .returned (.tuple #[.agg (zeros32.map (Value.int .u8)).toArray, .int .i64 21]) ∧ Kept (fun _ => False) w w' := by
  have h1 := oneCells .u8 zeros32
  have hz31 : (Tryd.prog.info? 31).map (·.size) = some (zeros32.map (Value.int .u8)).toArray.size := by simp [size31, zeros32]
  have hsI : ¬ (s.size : Int) = 64 := by omega
  go_enter Tryd.func30, Tryd.ntmps30
  go_wp2_with (refine wpList_store_row rfl 31 _ _ rfl w.heap.size (zeros32.map (Value.int .u8)).toArray rfl rfl 31 _ (alloc_new _ _ rfl) hz31 rfl h1 ?_; rw [setRow_new _ _ _ _ rfl])
  try simp only [Act.put]
  refine bodyPost_ret (v := .tuple #[.agg (zeros32.map (Value.int .u8)).toArray, .int .i64 21]) ?_ rfl ⟨rfl, (Kept.refl _ w).alloc _⟩
  exact results_row_tmp (fn := Tryd.f30) (p := 2) (u := 3) (by rfl) _ _ w.heap.size 31 (zeros32.map (Value.int .u8)).toArray (0, 0) _ (by rfl) (alloc_new _ _ rfl) Tryd.underlying31 rfl hz31

set_option maxRecDepth 100000 in
set_option maxHeartbeats 2000000 in
theorem rparse_let (s : ByteArray) (hs : s.size = 64) (w : World) :
    Calls Tryd.prog 30 #[.string s] w fun e w' => Kept (fun _ => False) w w' ∧ ((∀ j, j < 64 → 0 ≤ hv s j) ∧ e = .returned (.tuple #[.agg ((parsed s).map (Value.int .u8)).toArray, .int .i64 0]) ∨ (∃ j, j < 64 ∧ hv s j < 0) ∧ e = .returned (.tuple #[.agg (zeros32.map (Value.int .u8)).toArray, .int .i64 21])) := by
  have h1 := oneCells .u8 zeros32
  have hz31 : (Tryd.prog.info? 31).map (·.size) = some (zeros32.map (Value.int .u8)).toArray.size := by simp [size31, zeros32]
  have hsI : (s.size : Int) = 64 := by omega
  have HLT := hid_of (fun k W (h : k < 64) => run_letter W s k (by omega))
  have HDG := hid_of digit_any
  have HS := hid_of hs
  clear hs
  go_enter Tryd.func30, Tryd.ntmps30
  go_wp2_with fail
  go_loopw [5] (fun i wr => ∃ k : Nat, k ≤ 64 ∧ i = .int .i64 k ∧ (∀ j, j < k → 0 ≤ hv s j) ∧ Row wr w.heap.size 31 .u8 32 0 (fun _ => 0) ∧ Row wr (w.heap.size + 1) 31 .u8 32 32 (dAt s k) ∧ Kept (fun _ => False) w wr) (fun i _ => 64 - (intOf i).toNat)
  case atStart =>
    refine ⟨0, by omega, rfl, fun j hj => absurd hj (by omega), ⟨_, alloc_old (alloc_new _ _ rfl), rfl, fun j hj => absurd hj (by omega)⟩, ⟨(zeros32.map (Value.int .u8)).toArray, alloc_new _ _ (by simp), rfl, fun j hj => ?_⟩, ((Kept.refl _ _).alloc _).alloc _⟩
    rw [zeros32, List.map_replicate, List.getElem?_toArray, List.getElem?_replicate, if_pos hj, dAt, if_neg (by omega), if_neg (by omega)]
  case round =>
    obtain ⟨k, hk, rfl, hgood, hO, hD, hK⟩ := hrel
    by_cases hlt : k < 64
    · have hlet := fun W => HLT.out k W hlt
      have hkI : (k : Int) < 64 := by omega
      have hx0 : 0 ≤ dAt s k (k / 2) ∧ dAt s k (k / 2) < 16 := by
        unfold dAt
        rw [if_neg (by omega)]
        split
        · exact ⟨hgood _ (by omega), half_lt _⟩
        · omega
      have HGOOD := hid_of hgood
      have HX0 := hid_of hx0
      have HO := hid_of hO
      have HD := hid_of hD
      have HK := hid_of hK
      clear hgood hO hD hK HLT hx0
      go_wp2_with fail
      go_loopw [6, 7] (fun f i wr' => ∃ m : Nat, m ≤ 16 ∧ i = .int .i64 m ∧ f = .bool (fnd s k m) ∧ Row wr' w.heap.size 31 .u8 32 0 (fun _ => 0) ∧ Row wr' (w.heap.size + 1) 31 .u8 32 32 (dIn s k m) ∧ Kept (fun _ => False) w wr') (fun _ i _ => 16 - (intOf i).toNat)
      case atStart => exact ⟨0, by omega, rfl, by rw [fnd_zero], HO.out, by rw [dIn_zero]; exact HD.out, HK.out⟩
      case round =>
        clear HO HD HK
        obtain ⟨m, hm, rfl, rfl, hO, hD, hK⟩ := hrel
        by_cases hmt : m < 16
        · have hdg := fun W => HDG.out (m : Int) (by omega) (by omega) W
          have hmI : (m : Int) < 16 := by omega
          by_cases hh : hv s k = m
          · have heq : letter s k = hexd m := (letter_hexd s k m hmt).2 hh
            rw [dIn_old s k m hh] at hD
            have hD' : Row wr.drew (w.heap.size + 1) 31 .u8 32 32 (dAt s k) := hD
            have hO' : Row wr.drew w.heap.size 31 .u8 32 0 (fun _ => 0) := hO
            have hc := hD'.cell (k := k / 2) (by omega)
            obtain ⟨_, hf⟩ := hD'.there (k := k / 2) (by omega)
            have H2 : Hid (Row (wr.drew.setCell ⟨w.heap.size + 1, k / 2, none⟩ (.int .u8 (16 * dAt s k (k / 2) + m))) (w.heap.size + 1) 31 .u8 32 32 (dIn s k (m + 1))) := hD'.set (by omega) _ (dIn_at s k m hh) (fun j hj hne => ⟨hj, dIn_other s k m j hne⟩)
            have H1 : Hid (∀ x, Row (wr.drew.setCell ⟨w.heap.size + 1, k / 2, none⟩ x) w.heap.size 31 .u8 32 0 (fun _ => 0)) := fun x => hO'.other _ _ (by show _ ≠ w.heap.size + 1; omega)
            have HK2 : Hid (∀ x, Kept (fun _ => False) w (wr.drew.setCell ⟨w.heap.size + 1, k / 2, none⟩ x)) := fun x => hK.drew.setCell (.inl (by show _ ≤ w.heap.size + 1; omega)) _
            have HF := hid_of (fnd_hit s k m hh)
            have HDM := hid_of hdg
            have hx0 := HX0.out
            clear hO hD hK hdg hh HDG hD' hO' HX0
            rw [heq] at hlet
            clear heq
            generalize hexd (m : Int) = q at *
            generalize dAt s k (k / 2) = x at *
            generalize fnd s k m = ff at *
            go_wp2
            go_region_law (first | (refine step_call1 rfl 39 (.tmp 23) 3 rfl _ rfl _ (ent39 _ _) (HDM.out _) ?_))
            all_goals
              go_wp2
              go_roundw
              case rel => exact ⟨m + 1, by omega, by go_num, by rw [HF.out], H1.out _, H2.out, HK2.out _⟩
              case measure => simp [intOf]; omega
          · have hne : ¬ letter s k = hexd m := fun e => hh ((letter_hexd s k m hmt).1 e)
            have HF := hid_of (fnd_miss s k m hh)
            rw [← dIn_miss s k m hh] at hD
            have HO : Hid (Row wr.drew w.heap.size 31 .u8 32 0 (fun _ => 0)) := hO
            have HD : Hid (Row wr.drew (w.heap.size + 1) 31 .u8 32 32 (dIn s k (m + 1))) := hD
            have HK := hid_of hK.drew
            have HDM := hid_of hdg
            clear hO hD hK hdg hh HDG
            generalize hexd (m : Int) = q at *
            generalize letter s k = t at *
            generalize hfm : fnd s k m = ff at *
            go_wp2
            go_region_law (first | (refine step_call1 rfl 39 (.tmp 23) 3 rfl _ rfl _ (ent39 _ _) (HDM.out _) ?_))
            all_goals
              go_wp2
              go_roundw
              case rel => exact ⟨m + 1, by omega, by go_num, by rw [HF.out], HO.out, HD.out, HK.out⟩
              case measure => simp [intOf]; omega
        · obtain rfl : m = 16 := by omega
          by_cases hh : 0 ≤ hv s k
          · rw [fnd_all s k hh]
            rw [dIn_hit s k hh] at hD
            have HG : Hid (∀ j, j < k + 1 → 0 ≤ hv s j) := fun j hj => by
              by_cases e : j = k
              · rw [e]; exact hh
              · exact HGOOD.out j (by omega)
            have HO := hid_of hO
            have HD := hid_of hD
            have HK := hid_of hK
            clear hO hD hK HDG HX0
            go_wp2
            go_roundw
            case rel => exact ⟨k + 1, by omega, by go_num, HG.out, HO.out, HD.out, HK.out⟩
            case measure => simp [intOf]; omega
          · rw [fnd_none s k (by omega)]
            obtain ⟨old, hO, hosz, _⟩ := hO
            have HKR : Hid (Kept (fun _ => False) w (wr.setRow w.heap.size (zeros32.map (Value.int .u8)).toArray)) := hK.setRow (.inl (by omega)) _
            have HRR := hid_of (setRow_heap wr w.heap.size old (zeros32.map (Value.int .u8)).toArray 31 (0, 0) hO)
            have HBAD := hid_of (⟨k, hlt, by omega⟩ : ∃ j, j < 64 ∧ hv s j < 0)
            have hos : old.size = (zeros32.map (Value.int .u8)).toArray.size := by rw [hosz]; rfl
            clear hD hK HDG HX0 hosz hlet
            go_wp2_with (refine wpList_store_row rfl 31 _ _ rfl w.heap.size (zeros32.map (Value.int .u8)).toArray rfl rfl 31 old hO hz31 hos h1 ?_)
            try simp only [Act.put]
            refine bodyPost_ret (v := .tuple #[.agg (zeros32.map (Value.int .u8)).toArray, .int .i64 21]) ?_ rfl ⟨HKR.out, .inr ⟨HBAD.out, rfl⟩⟩
            exact results_row_tmp (fn := Tryd.f30) (p := 2) (u := 3) (by rfl) _ _ w.heap.size 31 (zeros32.map (Value.int .u8)).toArray (0, 0) _ (by rfl) HRR.out Tryd.underlying31 rfl hz31
    · obtain rfl : k = 64 := by omega
      obtain ⟨cur, hB, hsz, hcur⟩ := hD
      obtain rfl := row_list (l := parsed s) hsz (parsed_length s) (fun j hj => by rw [parsed_at s j hj]; exact hcur j hj)
      obtain ⟨old, hO, hosz, _⟩ := hO
      have h2 := oneCells .u8 (parsed s)
      have hs31 : (Tryd.prog.info? 31).map (·.size) = some ((parsed s).map (Value.int .u8)).toArray.size := by simp [size31, parsed_length]
      have hos : old.size = ((parsed s).map (Value.int .u8)).toArray.size := by simp [hosz, parsed_length]
      have HKR : Hid (Kept (fun _ => False) w (wr.setRow w.heap.size ((parsed s).map (Value.int .u8)).toArray)) := hK.setRow (.inl (by omega)) _
      have HRR := hid_of (setRow_heap wr w.heap.size old ((parsed s).map (Value.int .u8)).toArray 31 (0, 0) hO)
      have HG := hid_of hgood
      clear hcur hsz hosz hK hgood HLT HDG
      generalize hcs : ((parsed s).map (Value.int .u8)).toArray = cs at *
      have HC := hid_of hcs
      clear hcs
      go_wp2_with (first | refine wpList_load_row rfl 31 _ rfl (w.heap.size + 1) rfl 31 cs (0, 0) _ hB Tryd.underlying31 rfl hs31 ?_ | refine wpList_store_row rfl 31 _ _ rfl w.heap.size cs rfl rfl 31 old hO hs31 hos h2 ?_)
      refine bodyPost_ret (v := .tuple #[.agg cs, .int .i64 0]) ?_ rfl ⟨HKR.out, .inl ⟨HG.out, by first | rfl | rw [HC.out]⟩⟩
      exact results_row_tmp (fn := Tryd.f30) (p := 2) (u := 3) (by rfl) _ _ w.heap.size 31 cs (0, 0) _ (by rfl) HRR.out Tryd.underlying31 rfl hs31
end Go.Proofs.YtdbogfjkaebeoaaDoor

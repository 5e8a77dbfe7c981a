import Derived.Test.YtpfmhibdmehlcaaGreatDoorTBa1
import Derived.Test.YtpfmhibdmehlcaaGreatDoorTBa10
import Derived.Test.YtpfmhibdmehlcaaGreatDoorTBa11
import Derived.Test.YtpfmhibdmehlcaaGreatDoorTBa12
import Derived.Test.YtpfmhibdmehlcaaGreatDoorTBa13
import Derived.Test.YtpfmhibdmehlcaaGreatDoorTBa14
import Derived.Test.YtpfmhibdmehlcaaGreatDoorTBa15
import Derived.Test.YtpfmhibdmehlcaaGreatDoorTBa16
import Derived.Test.YtpfmhibdmehlcaaGreatDoorTBa17
import Derived.Test.YtpfmhibdmehlcaaGreatDoorTBa18
import Derived.Test.YtpfmhibdmehlcaaGreatDoorTBa19
import Derived.Test.YtpfmhibdmehlcaaGreatDoorTBa2
import Derived.Test.YtpfmhibdmehlcaaGreatDoorTBa20
import Derived.Test.YtpfmhibdmehlcaaGreatDoorTBa21
import Derived.Test.YtpfmhibdmehlcaaGreatDoorTBa22
import Derived.Test.YtpfmhibdmehlcaaGreatDoorTBa23
import Derived.Test.YtpfmhibdmehlcaaGreatDoorTBa24
import Derived.Test.YtpfmhibdmehlcaaGreatDoorTBa25
import Derived.Test.YtpfmhibdmehlcaaGreatDoorTBa26
import Derived.Test.YtpfmhibdmehlcaaGreatDoorTBa27
import Derived.Test.YtpfmhibdmehlcaaGreatDoorTBa28
import Derived.Test.YtpfmhibdmehlcaaGreatDoorTBa29
import Derived.Test.YtpfmhibdmehlcaaGreatDoorTBa3
import Derived.Test.YtpfmhibdmehlcaaGreatDoorTBa30
import Derived.Test.YtpfmhibdmehlcaaGreatDoorTBa31
import Derived.Test.YtpfmhibdmehlcaaGreatDoorTBa32
import Derived.Test.YtpfmhibdmehlcaaGreatDoorTBa33
import Derived.Test.YtpfmhibdmehlcaaGreatDoorTBa34
import Derived.Test.YtpfmhibdmehlcaaGreatDoorTBa35
import Derived.Test.YtpfmhibdmehlcaaGreatDoorTBa36
import Derived.Test.YtpfmhibdmehlcaaGreatDoorTBa37
import Derived.Test.YtpfmhibdmehlcaaGreatDoorTBa38
import Derived.Test.YtpfmhibdmehlcaaGreatDoorTBa39
import Derived.Test.YtpfmhibdmehlcaaGreatDoorTBa4
import Derived.Test.YtpfmhibdmehlcaaGreatDoorTBa40
import Derived.Test.YtpfmhibdmehlcaaGreatDoorTBa41
import Derived.Test.YtpfmhibdmehlcaaGreatDoorTBa42
import Derived.Test.YtpfmhibdmehlcaaGreatDoorTBa43
import Derived.Test.YtpfmhibdmehlcaaGreatDoorTBa44
import Derived.Test.YtpfmhibdmehlcaaGreatDoorTBa45
import Derived.Test.YtpfmhibdmehlcaaGreatDoorTBa46
import Derived.Test.YtpfmhibdmehlcaaGreatDoorTBa47
import Derived.Test.YtpfmhibdmehlcaaGreatDoorTBa48
import Derived.Test.YtpfmhibdmehlcaaGreatDoorTBa49
import Derived.Test.YtpfmhibdmehlcaaGreatDoorTBa5
import Derived.Test.YtpfmhibdmehlcaaGreatDoorTBa50
import Derived.Test.YtpfmhibdmehlcaaGreatDoorTBa51
import Derived.Test.YtpfmhibdmehlcaaGreatDoorTBa6
import Derived.Test.YtpfmhibdmehlcaaGreatDoorTBa7
import Derived.Test.YtpfmhibdmehlcaaGreatDoorTBa8
import Derived.Test.YtpfmhibdmehlcaaGreatDoorTBa9
import Derived.Test.YtpfmhibdmehlcaaGreatDoorProg
import Derived.WalkKit
import Derived.ProofKit
import Derived.Maps.AppendAt
import Derived.Deep.RegionHeld3
import Derived.Lib.SliceRun
import Derived.Laws.BitsAllLaws
import Derived.Lib.AppendStr
import Derived.Deep.QuietTactic
import Derived.BigQuiet
import Derived.WalkSmall
import Derived.Laws.CopyRow
import Derived.Laws.IdiomCopy
import Derived.Laws.Tables
import Derived.Laws.Rows
import Derived.Laws.ResultCell
import Derived.Deep.MidRow
import Derived.Deep.DeepCutAuto
import Derived.Deep.CutBlock
import Derived.Laws.BytesString
import Derived.Deep.AppendSrc
import Derived.Deep.Strs
import Derived.OpenShut
import Derived.ChangeOld
import Derived.Defers
import Derived.Recover
import Derived.Laws.Bits64
import Derived.LaidEqlPtr
import Derived.Deep.RegionLaw
import Derived.Laws.IdiomStrings
import Derived.Lib.SmallJoins
import Derived.Great.BuildSlice
import Derived.Laws.StructEq
import Derived.Laws.OwnMore
import Derived.Shelf.Lay
import Derived.Shelf.LaysM
import Derived.Shelf.LaysC
import Derived.Shelf.Small.Wraps
import Derived.Shelf.Strconv.Itoa3
import Derived.Shelf.Strconv.ParseIntPublic10
import Derived.Shelf.Strconv.AppendIntPublic10
import Derived.Shelf.Strings.Prefix
import Derived.Shelf.Strings.Split
import Derived.Shelf.Strings.AsciiSet
import Derived.MapKept
import Derived.Lib.OthersKept
import Derived.Lib.SlBytesConst
import Derived.Shelf.Lays
import Derived.Shelf.Strings.Runes
import Derived.Shelf.Small.Utf8
import Derived.WalkMore
import Derived.Laws.RangeAny
import Derived.Deep.LoopGhost
import Derived.Lib.ConvBytes
import Derived.Laws.Closers25
import Derived.Laws.Closers25b
import Derived.Lib.Hide
import Derived.LaidEql
import Derived.Stop.Asserts
import Derived.RowKitTokens
import Derived.Shelf.Strconv.ToError
import Derived.Shelf.Strconv.ToErrorRange
import Derived.Shelf.Strings.SlTrimAscii
import Derived.Lib.ParseIntB
import Derived.Lib.ItoaLen
namespace Go.Proofs.YtpfmhibdmehlcaaGreatDoor
open Go.RowKit
set_option linter.unusedVariables false
set_option linter.unusedSimpArgs false
set_option maxRecDepth 100000
theorem idxL (D : ByteArray) (i : Nat) (x : Int) (h : i < D.size) (hx : ((D[i]'h).toNat : Int) = x) (w : World) : (Instr.index 9 (.string D) (.int .i64 (i : Int))).run Tryz.prog w = .ok (.int .u8 x) w := by
 rw [run_index_string (P := Tryz.prog) w 9 D .i64 (i : Int) Tryz.underlying9, dif_pos ⟨by omega, by omega⟩]
 simp only [Sem.run_pure, Int.toNat_natCast]
 rw [← hx]
theorem round_any (x n : Int) (w : World) (h0 : -9223372036854775808 ≤ x) (h1 : x ≤ 9223372036854775807) (hn : 0 < n) (hn' : n ≤ 4611686018427387904) :
  Calls Tryz.prog 38 #[.int .i64 x, .int .i64 n] w fun e w' => e = .returned (.int .i64 (x % n)) ∧ w' = w := by
 have hz : (n == 0) = false := by simp; omega
 by_cases hx : 0 ≤ x
 ·have e := Int.tmod_eq_emod_of_nonneg (b := n) hx
  have HE := hid_of e
  clear e
  have l1 := Int.emod_nonneg x (show n ≠ 0 by omega)
  have l2 := Int.emod_lt_of_pos x hn
  go_enter Tryz.func38, Tryz.ntmps38
  go_wp2
  go_ret
  exact ⟨rfl, rfl⟩
 ·have e : x.tmod n = -((-x) % n) := by
   have h : x = -(-x) := by omega
   rw [h, Int.neg_tmod, Int.tmod_eq_emod_of_nonneg (by omega), Int.neg_neg]
  have l1 := Int.emod_nonneg (-x) (show n ≠ 0 by omega)
  have l2 := Int.emod_lt_of_pos (-x) hn
  have t1 : -n < x.tmod n := by omega
  have t2 : x.tmod n ≤ 0 := by omega
  have f : x % n = if x.tmod n < 0 then x.tmod n + n else x.tmod n := by
   rw [Int.emod_eq_tmod]
   by_cases hd : n ∣ x
   ·have z := Int.tmod_eq_zero_of_dvd hd
    rw [if_pos (.inr hd), if_neg (by omega)]
    omega
   ·have z : x.tmod n ≠ 0 := fun h => hd (Int.dvd_of_tmod_eq_zero h)
    rw [if_neg (by intro h; rcases h with h | h; exact hx h; exact hd h), if_pos (by omega)]
    omega
  have HF := hid_of f
  clear e l1 l2 f
  by_cases ht : x.tmod n < 0
  ·go_enter Tryz.func38, Tryz.ntmps38
   go_wp2
   go_ret
   refine ⟨?_, rfl⟩
   rw [HF.out, if_pos ht]
   rfl
  ·go_enter Tryz.func38, Tryz.ntmps38
   go_wp2
   go_ret
   refine ⟨?_, rfl⟩
   rw [HF.out, if_neg (by omega)]
   rfl
def blL : Nat → List UInt8
 | 0 => []
 | 1 => [32]
 | 2 => [9]
 | 3 => [32, 32]
 | 4 => [13]
 | _ => [32, 9, 32, 13]
def blS (n : Nat) : ByteArray := ⟨(blL n).toArray⟩
theorem blL_blank : ∀ n, ∀ b ∈ blL n, blankB b
 | 0, b, h => absurd h List.not_mem_nil
 | 1, b, h => by rw [List.mem_singleton.1 (show b ∈ [32] from h)]; exact .inr (.inr rfl)
 | 2, b, h => by rw [List.mem_singleton.1 (show b ∈ [9] from h)]; exact .inl rfl
 | 3, b, h => by
  have : b = 32 := by simpa [blL] using h
  exact .inr (.inr this)
 | 4, b, h => by rw [List.mem_singleton.1 (show b ∈ [13] from h)]; exact .inr (.inl rfl)
 | n + 5, b, h => by
  have h2 : b = 32 ∨ b = 9 ∨ b = 32 ∨ b = 13 := by simpa [blL] using h
  rcases h2 with h2 | h2 | h2 | h2
  ·exact .inr (.inr h2)
  ·exact .inl h2
  ·exact .inr (.inr h2)
  ·exact .inr (.inl h2)
theorem blL_len : ∀ n, (blL n).length ≤ 4
 | 0 => by decide
 | 1 => by decide
 | 2 => by decide
 | 3 => by decide
 | 4 => by decide
 | n + 5 => by simp [blL]
def blI (x : Int) : Nat := (x % 6).toNat
abbrev blC : Array Value := #[.string ⟨#[]⟩, .string ⟨#[32]⟩, .string ⟨#[9]⟩, .string ⟨#[32, 32]⟩, .string ⟨#[13]⟩, .string ⟨#[32, 9, 32, 13]⟩]
set_option maxHeartbeats 4000000 in
theorem blanks_any (x : Int) (w : World) (h0 : -9223372036854775808 ≤ x) (h1 : x ≤ 9223372036854775807) : Calls Tryz.prog 23 #[.int .i64 x] w fun e w' => e = .returned (.string (blS (blI x))) ∧ Kept (fun _ => False) w w' := by
 have HRO := hid_of (fun wx => round_any x 6 wx h0 h1 (by decide) (by decide))
 have q0 : 0 ≤ x % 6 := Int.emod_nonneg _ (by decide)
 have q1 : x % 6 < 6 := Int.emod_lt_of_pos _ (by decide)
 unfold blI
 generalize x % 6 = q at *
 obtain ⟨k, rfl⟩ := Int.eq_ofNat_of_zero_le q0
 have hk6 : k < 6 := by omega
 rw [Int.toNat_natCast]
 have hka : Kept (fun _ => False) w (w.alloc (.cells blC 9)) := (Kept.refl _ _).alloc _
 have hcell : (w.alloc (.cells blC 9)).cell? ⟨w.heap.size, 0 + k, none⟩ = some (.string (blS k)) := by
  rw [Nat.zero_add, cell_block _ _ _ _ _ _ (heap_alloc_new w _)]
  have : ∀ j, j < 6 → blC[j]? = some (.string (blS j)) := by
   intro j hj
   have h : j = 0 ∨ j = 1 ∨ j = 2 ∨ j = 3 ∨ j = 4 ∨ j = 5 := by omega
   rcases h with rfl | rfl | rfl | rfl | rfl | rfl <;> rfl
  exact this k hk6
 have HKA := hid_of hka
 have HC := hid_of hcell
 clear hka hcell
 go_enter Tryz.func23, Tryz.ntmps23
 go_wp2_with fail
 refine (HRO.out _).mono ?_
 rintro e w1 ⟨rfl, rfl⟩
 have hc := HC.out
 go_wp2
 go_ret
 refine ⟨?_, HKA.out⟩
 have h : k = 0 ∨ k = 1 ∨ k = 2 ∨ k = 3 ∨ k = 4 ∨ k = 5 := by omega
 rcases h with rfl | rfl | rfl | rfl | rfl | rfl <;> rfl
def isW (i : Nat) (x : Int) : Bool := isLP x || (decide (i ≠ 0) && isDP x)
def WordR (s : ByteArray) (w : World) (e : Ending) (w' : World) : Prop := ∃ b, e = .returned (.bool b) ∧ (b = true → WordL s.data.toList) ∧ w' = w
theorem head_at : ∀ (l : List UInt8) (h : 0 < l.length), l.headD 0 = l[0]
 | [], h => absurd h (Nat.lt_irrefl _)
 | _ :: _, _ => rfl
theorem word_of {s : ByteArray} (h0 : 0 < s.size) (h : ∀ i (hi : i < s.size), isW i ((s[i]'hi).toNat : Int) = true) : WordL s.data.toList := by
 have hl : s.data.toList.length = s.size := by simp
 have hg : ∀ i (hi : i < s.data.toList.length), s.data.toList[i] = s[i]'(by omega) := fun i hi => by simp; rfl
 refine ⟨fun e => by rw [e] at hl; simp at hl; omega, ?_, fun b hb => ?_⟩
 ·have h1 := h 0 h0
  unfold isW at h1
  have e : s.data.toList.headD 0 = s[0]'h0 := by
   rw [← hg 0 (by omega)]
   exact head_at _ _
  rw [e]
  simpa using h1
 ·obtain ⟨i, hi, rfl⟩ := List.mem_iff_getElem.1 hb
  rw [hg i hi]
  have h1 := h i (by omega)
  unfold isW at h1
  unfold goP
  simp only [Bool.or_eq_true, Bool.and_eq_true] at h1 ⊢
  rcases h1 with h1 | h1
  ·exact .inl h1
  ·exact .inr h1.2
set_option maxHeartbeats 16000000 in
theorem wordN_any (s : ByteArray) (w : World) (hs : s.size ≤ 140737488351232) : Calls Tryz.prog 12 #[.string s] w (WordR s w) := by
 obtain ⟨n, hn⟩ : ∃ n, n = s.size := ⟨_, rfl⟩
 have HNN := hid_of hn
 have hlen : (s.size : Int) = (n : Int) := by rw [hn]
 have hnI : (n : Int) ≤ 140737488351232 := by omega
 clear hn hs
 go_enter Tryz.func12, Tryz.ntmps12
 go_wp2_with fail
 go_loopw [3] (fun iv wr => ∃ (i : Nat), iv = .int .i64 (i : Int) ∧ Hid (i ≤ n) ∧ Hid (∀ j (hj : j < s.size), j < i → isW j ((s[j]'hj).toNat : Int) = true) ∧ wr = w) (fun iv _ => n - (intOf iv).toNat)
 case atStart => exact ⟨0, rfl, Nat.zero_le _, (fun j _ h => absurd h (Nat.not_lt_zero _)), rfl⟩
 case round =>
  obtain ⟨i, rfl, HI, HW, rfl⟩ := hrel
  by_cases hlt : i < n
  ·have hltI : (i : Int) < (n : Int) := by omega
   have hiD : i < s.size := by rw [← HNN.out]; exact hlt
   obtain ⟨x, hx⟩ : ∃ x : Int, ((s[i]'hiD).toNat : Int) = x := ⟨_, rfl⟩
   have hix := idxL s i x hiD hx
   have HX := hid_of hx
   have HNEXT : Hid (isW i x = true → ∀ j (hj : j < s.size), j < i + 1 → isW j ((s[j]'hj).toNat : Int) = true) := fun h j hj hji => by
    rcases Nat.lt_or_ge j i with h1 | h1
    ·exact HW.out j hj h1
    ·obtain rfl : j = i := by omega
     rw [HX.out]
     exact h
   clear hx
   by_cases c1 : 97 ≤ x ∧ x ≤ 122
   ·have HT : Hid (isW i x = true) := by show _ = _; unfold isW isLP; simp; omega
    obtain ⟨c11, c12⟩ := c1
    have c13 : ¬ x < 97 := by omega
    have c14 : ¬ 122 < x := by omega
    go_wp2
    go_roundw
    case rel => exact ⟨i + 1, by go_num, hlt, HNEXT.out HT.out, trivial⟩
    case measure => simp [intOf]; omega
   ·by_cases c2 : 65 ≤ x ∧ x ≤ 90
    ·have HT : Hid (isW i x = true) := by show _ = _; unfold isW isLP; simp; omega
     obtain ⟨c21, c22⟩ := c2
     have c23 : x < 97 := by omega
     have c24 : ¬ x < 65 := by omega
     have c25 : ¬ 90 < x := by omega
     clear c1
     go_wp2
     go_roundw
     case rel => exact ⟨i + 1, by go_num, hlt, HNEXT.out HT.out, trivial⟩
     case measure => simp [intOf]; omega
    ·by_cases c3 : x = 95
     ·subst c3
      have HT : Hid (isW i 95 = true) := by show _ = _; unfold isW isLP; simp
      clear c1 c2
      go_wp2
      go_roundw
      case rel => exact ⟨i + 1, by go_num, hlt, HNEXT.out HT.out, trivial⟩
      case measure => simp [intOf]; omega
     ·have c31 : (x == 95) = false := by simpa using c3
      have c32 : (x != 95) = true := by simpa using c3
      by_cases i0 : i = 0
      ·have i1 : ((i : Int) == 0) = true := by simp; omega
       clear i0
       by_cases d1 : x < 97
       ·by_cases d2 : x < 65
        ·clear c1 c2 c3
         go_wp2
         go_ret
         exact ⟨false, rfl, (fun h => by cases h), rfl⟩
        ·have d3 : 90 < x := by omega
         clear c1 c2 c3
         go_wp2
         go_ret
         exact ⟨false, rfl, (fun h => by cases h), rfl⟩
       ·have d2 : 122 < x := by omega
        have d3 : ¬ x < 65 := by omega
        have d4 : 90 < x := by omega
        clear c1 c2 c3
        go_wp2
        go_ret
        exact ⟨false, rfl, (fun h => by cases h), rfl⟩
      ·have i1 : ((i : Int) == 0) = false := by simp; omega
       by_cases d1 : x < 97
       ·by_cases d2 : x < 65
        ·by_cases d3 : x < 48
         ·clear c1 c2 c3
          go_wp2
          go_ret
          exact ⟨false, rfl, (fun h => by cases h), rfl⟩
         ·by_cases d4 : 57 < x
          ·clear c1 c2 c3
           go_wp2
           go_ret
           exact ⟨false, rfl, (fun h => by cases h), rfl⟩
          ·have HT : Hid (isW i x = true) := by show _ = _; unfold isW isDP; simp; omega
           clear c1 c2 c3
           go_wp2
           go_roundw
           case rel => exact ⟨i + 1, by go_num, hlt, HNEXT.out HT.out, trivial⟩
           case measure => simp [intOf]; omega
        ·have d3 : 90 < x := by omega
         have d5 : ¬ x < 48 := by omega
         have d6 : 57 < x := by omega
         clear c1 c2 c3
         go_wp2
         go_ret
         exact ⟨false, rfl, (fun h => by cases h), rfl⟩
       ·have d2 : 122 < x := by omega
        have d3 : ¬ x < 65 := by omega
        have d4 : 90 < x := by omega
        have d5 : ¬ x < 48 := by omega
        have d6 : 57 < x := by omega
        clear c1 c2 c3
        go_wp2
        go_ret
        exact ⟨false, rfl, (fun h => by cases h), rfl⟩
  ·have hltI : ¬ (i : Int) < (n : Int) := by omega
   have HALL : Hid (0 < s.size → WordL s.data.toList) := fun h0 => word_of h0 (fun j hj => HW.out j hj (by have := HNN.out; omega))
   by_cases h0 : 0 < n
   ·have h0I : (0 : Int) < (n : Int) := by omega
    go_wp2
    go_ret
    exact ⟨true, rfl, (fun _ => HALL.out (by rw [← HNN.out]; exact h0)), rfl⟩
   ·have h0I : ¬ (0 : Int) < (n : Int) := by omega
    go_wp2
    go_ret
    exact ⟨false, rfl, (fun h => by cases h), rfl⟩
end Go.Proofs.YtpfmhibdmehlcaaGreatDoor

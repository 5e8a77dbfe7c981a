import Derived.Test.YtpfmhibdmehlcaaGreatDoorTBa1
import Derived.Test.YtpfmhibdmehlcaaGreatDoorTBa10
import Derived.Test.YtpfmhibdmehlcaaGreatDoorTBa11
import Derived.Test.YtpfmhibdmehlcaaGreatDoorTBa12
import Derived.Test.YtpfmhibdmehlcaaGreatDoorTBa13
import Derived.Test.YtpfmhibdmehlcaaGreatDoorTBa14
import Derived.Test.YtpfmhibdmehlcaaGreatDoorTBa15
import Derived.Test.YtpfmhibdmehlcaaGreatDoorTBa16
import Derived.Test.YtpfmhibdmehlcaaGreatDoorTBa17
import Derived.Test.YtpfmhibdmehlcaaGreatDoorTBa18
import Derived.Test.YtpfmhibdmehlcaaGreatDoorTBa19
import Derived.Test.YtpfmhibdmehlcaaGreatDoorTBa2
import Derived.Test.YtpfmhibdmehlcaaGreatDoorTBa20
import Derived.Test.YtpfmhibdmehlcaaGreatDoorTBa21
import Derived.Test.YtpfmhibdmehlcaaGreatDoorTBa22
import Derived.Test.YtpfmhibdmehlcaaGreatDoorTBa23
import Derived.Test.YtpfmhibdmehlcaaGreatDoorTBa24
import Derived.Test.YtpfmhibdmehlcaaGreatDoorTBa25
import Derived.Test.YtpfmhibdmehlcaaGreatDoorTBa26
import Derived.Test.YtpfmhibdmehlcaaGreatDoorTBa27
import Derived.Test.YtpfmhibdmehlcaaGreatDoorTBa28
import Derived.Test.YtpfmhibdmehlcaaGreatDoorTBa29
import Derived.Test.YtpfmhibdmehlcaaGreatDoorTBa3
import Derived.Test.YtpfmhibdmehlcaaGreatDoorTBa30
import Derived.Test.YtpfmhibdmehlcaaGreatDoorTBa31
import Derived.Test.YtpfmhibdmehlcaaGreatDoorTBa32
import Derived.Test.YtpfmhibdmehlcaaGreatDoorTBa33
import Derived.Test.YtpfmhibdmehlcaaGreatDoorTBa34
import Derived.Test.YtpfmhibdmehlcaaGreatDoorTBa35
import Derived.Test.YtpfmhibdmehlcaaGreatDoorTBa36
import Derived.Test.YtpfmhibdmehlcaaGreatDoorTBa37
import Derived.Test.YtpfmhibdmehlcaaGreatDoorTBa38
import Derived.Test.YtpfmhibdmehlcaaGreatDoorTBa39
import Derived.Test.YtpfmhibdmehlcaaGreatDoorTBa4
import Derived.Test.YtpfmhibdmehlcaaGreatDoorTBa40
import Derived.Test.YtpfmhibdmehlcaaGreatDoorTBa41
import Derived.Test.YtpfmhibdmehlcaaGreatDoorTBa42
import Derived.Test.YtpfmhibdmehlcaaGreatDoorTBa43
import Derived.Test.YtpfmhibdmehlcaaGreatDoorTBa44
import Derived.Test.YtpfmhibdmehlcaaGreatDoorTBa45
import Derived.Test.YtpfmhibdmehlcaaGreatDoorTBa46
import Derived.Test.YtpfmhibdmehlcaaGreatDoorTBa47
import Derived.Test.YtpfmhibdmehlcaaGreatDoorTBa48
import Derived.Test.YtpfmhibdmehlcaaGreatDoorTBa49
import Derived.Test.YtpfmhibdmehlcaaGreatDoorTBa5
import Derived.Test.YtpfmhibdmehlcaaGreatDoorTBa50
import Derived.Test.YtpfmhibdmehlcaaGreatDoorTBa51
import Derived.Test.YtpfmhibdmehlcaaGreatDoorTBa6
import Derived.Test.YtpfmhibdmehlcaaGreatDoorTBa7
import Derived.Test.YtpfmhibdmehlcaaGreatDoorTBa8
import Derived.Test.YtpfmhibdmehlcaaGreatDoorTBa9
import Derived.Test.YtpfmhibdmehlcaaGreatDoorProg
import Derived.WalkKit
import Derived.ProofKit
import Derived.Maps.AppendAt
import Derived.Deep.RegionHeld3
import Derived.Lib.SliceRun
import Derived.Laws.BitsAllLaws
import Derived.Lib.AppendStr
import Derived.Deep.QuietTactic
import Derived.BigQuiet
import Derived.WalkSmall
import Derived.Laws.CopyRow
import Derived.Laws.IdiomCopy
import Derived.Laws.Tables
import Derived.Laws.Rows
import Derived.Laws.ResultCell
import Derived.Deep.MidRow
import Derived.Deep.DeepCutAuto
import Derived.Deep.CutBlock
import Derived.Laws.BytesString
import Derived.Deep.AppendSrc
import Derived.Deep.Strs
import Derived.OpenShut
import Derived.ChangeOld
import Derived.Defers
import Derived.Recover
import Derived.Laws.Bits64
import Derived.LaidEqlPtr
import Derived.Deep.RegionLaw
import Derived.Laws.IdiomStrings
import Derived.Lib.SmallJoins
import Derived.Great.BuildSlice
import Derived.Laws.StructEq
import Derived.Laws.OwnMore
import Derived.Shelf.Lay
import Derived.Shelf.LaysM
import Derived.Shelf.LaysC
import Derived.Shelf.Small.Wraps
import Derived.Shelf.Strconv.Itoa3
import Derived.Shelf.Strconv.ParseIntPublic10
import Derived.Shelf.Strconv.AppendIntPublic10
import Derived.Shelf.Strings.Prefix
import Derived.Shelf.Strings.Split
import Derived.Shelf.Strings.AsciiSet
import Derived.MapKept
import Derived.Lib.OthersKept
import Derived.Lib.SlBytesConst
import Derived.Shelf.Lays
import Derived.Shelf.Strings.Runes
import Derived.Shelf.Small.Utf8
import Derived.WalkMore
import Derived.Laws.RangeAny
import Derived.Deep.LoopGhost
import Derived.Lib.ConvBytes
import Derived.Laws.Closers25
import Derived.Laws.Closers25b
import Derived.Lib.Hide
import Derived.LaidEql
import Derived.Stop.Asserts
import Derived.RowKitTokens
import Derived.Shelf.Strconv.ToError
import Derived.Shelf.Strconv.ToErrorRange
import Derived.Shelf.Strings.SlTrimAscii
import Derived.Lib.ParseIntB
import Derived.Lib.ItoaLen
import Derived.ChangeSlices
import Derived.SizedLaws
namespace Go.Proofs.YtpfmhibdmehlcaaGreatDoor
open Go.RowKit
set_option linter.unusedVariables false
set_option linter.unusedSimpArgs false
set_option maxRecDepth 100000
theorem idxL (D : ByteArray) (i : Nat) (x : Int) (h : i < D.size) (hx : ((D[i]'h).toNat : Int) = x) (w : World) : (Instr.index 9 (.string D) (.int .i64 (i : Int))).run Tryz.prog w = .ok (.int .u8 x) w := by
 rw [run_index_string (P := Tryz.prog) w 9 D .i64 (i : Int) Tryz.underlying9, dif_pos ⟨by omega, by omega⟩]
 simp only [Sem.run_pure, Int.toNat_natCast]
 rw [← hx]
theorem round_any (x n : Int) (w : World) (h0 : -9223372036854775808 ≤ x) (h1 : x ≤ 9223372036854775807) (hn : 0 < n) (hn' : n ≤ 4611686018427387904) :
  Calls Tryz.prog 38 #[.int .i64 x, .int .i64 n] w fun e w' => e = .returned (.int .i64 (x % n)) ∧ w' = w := by
 have hz : (n == 0) = false := by simp; omega
 by_cases hx : 0 ≤ x
 ·have e := Int.tmod_eq_emod_of_nonneg (b := n) hx
  have HE := hid_of e
  clear e
  have l1 := Int.emod_nonneg x (show n ≠ 0 by omega)
  have l2 := Int.emod_lt_of_pos x hn
  go_enter Tryz.func38, Tryz.ntmps38
  go_wp2
  go_ret
  exact ⟨rfl, rfl⟩
 ·have e : x.tmod n = -((-x) % n) := by
   have h : x = -(-x) := by omega
   rw [h, Int.neg_tmod, Int.tmod_eq_emod_of_nonneg (by omega), Int.neg_neg]
  have l1 := Int.emod_nonneg (-x) (show n ≠ 0 by omega)
  have l2 := Int.emod_lt_of_pos (-x) hn
  have t1 : -n < x.tmod n := by omega
  have t2 : x.tmod n ≤ 0 := by omega
  have f : x % n = if x.tmod n < 0 then x.tmod n + n else x.tmod n := by
   rw [Int.emod_eq_tmod]
   by_cases hd : n ∣ x
   ·have z := Int.tmod_eq_zero_of_dvd hd
    rw [if_pos (.inr hd), if_neg (by omega)]
    omega
   ·have z : x.tmod n ≠ 0 := fun h => hd (Int.dvd_of_tmod_eq_zero h)
    rw [if_neg (by intro h; rcases h with h | h; exact hx h; exact hd h), if_pos (by omega)]
    omega
  have HF := hid_of f
  clear e l1 l2 f
  by_cases ht : x.tmod n < 0
  ·go_enter Tryz.func38, Tryz.ntmps38
   go_wp2
   go_ret
   refine ⟨?_, rfl⟩
   rw [HF.out, if_pos ht]
   rfl
  ·go_enter Tryz.func38, Tryz.ntmps38
   go_wp2
   go_ret
   refine ⟨?_, rfl⟩
   rw [HF.out, if_neg (by omega)]
   rfl
def blL : Nat → List UInt8
 | 0 => []
 | 1 => [32]
 | 2 => [9]
 | 3 => [32, 32]
 | 4 => [13]
 | _ => [32, 9, 32, 13]
def blS (n : Nat) : ByteArray := ⟨(blL n).toArray⟩
theorem blL_blank : ∀ n, ∀ b ∈ blL n, blankB b
 | 0, b, h => absurd h List.not_mem_nil
 | 1, b, h => by rw [List.mem_singleton.1 (show b ∈ [32] from h)]; exact .inr (.inr rfl)
 | 2, b, h => by rw [List.mem_singleton.1 (show b ∈ [9] from h)]; exact .inl rfl
 | 3, b, h => by
  have : b = 32 := by simpa [blL] using h
  exact .inr (.inr this)
 | 4, b, h => by rw [List.mem_singleton.1 (show b ∈ [13] from h)]; exact .inr (.inl rfl)
 | n + 5, b, h => by
  have h2 : b = 32 ∨ b = 9 ∨ b = 32 ∨ b = 13 := by simpa [blL] using h
  rcases h2 with h2 | h2 | h2 | h2
  ·exact .inr (.inr h2)
  ·exact .inl h2
  ·exact .inr (.inr h2)
  ·exact .inr (.inl h2)
theorem blL_len : ∀ n, (blL n).length ≤ 4
 | 0 => by decide
 | 1 => by decide
 | 2 => by decide
 | 3 => by decide
 | 4 => by decide
 | n + 5 => by simp [blL]
def blI (x : Int) : Nat := (x % 6).toNat
abbrev blC : Array Value := #[.string ⟨#[]⟩, .string ⟨#[32]⟩, .string ⟨#[9]⟩, .string ⟨#[32, 32]⟩, .string ⟨#[13]⟩, .string ⟨#[32, 9, 32, 13]⟩]
set_option maxHeartbeats 4000000 in
theorem blanks_any (x : Int) (w : World) (h0 : -9223372036854775808 ≤ x) (h1 : x ≤ 9223372036854775807) : Calls Tryz.prog 23 #[.int .i64 x] w fun e w' => e = .returned (.string (blS (blI x))) ∧ Kept (fun _ => False) w w' := by
 have HRO := hid_of (fun wx => round_any x 6 wx h0 h1 (by decide) (by decide))
 have q0 : 0 ≤ x % 6 := Int.emod_nonneg _ (by decide)
 have q1 : x % 6 < 6 := Int.emod_lt_of_pos _ (by decide)
 unfold blI
 generalize x % 6 = q at *
 obtain ⟨k, rfl⟩ := Int.eq_ofNat_of_zero_le q0
 have hk6 : k < 6 := by omega
 rw [Int.toNat_natCast]
 have hka : Kept (fun _ => False) w (w.alloc (.cells blC 9)) := (Kept.refl _ _).alloc _
 have hcell : (w.alloc (.cells blC 9)).cell? ⟨w.heap.size, 0 + k, none⟩ = some (.string (blS k)) := by
  rw [Nat.zero_add, cell_block _ _ _ _ _ _ (heap_alloc_new w _)]
  have : ∀ j, j < 6 → blC[j]? = some (.string (blS j)) := by
   intro j hj
   have h : j = 0 ∨ j = 1 ∨ j = 2 ∨ j = 3 ∨ j = 4 ∨ j = 5 := by omega
   rcases h with rfl | rfl | rfl | rfl | rfl | rfl <;> rfl
  exact this k hk6
 have HKA := hid_of hka
 have HC := hid_of hcell
 clear hka hcell
 go_enter Tryz.func23, Tryz.ntmps23
 go_wp2_with fail
 refine (HRO.out _).mono ?_
 rintro e w1 ⟨rfl, rfl⟩
 have hc := HC.out
 go_wp2
 go_ret
 refine ⟨?_, HKA.out⟩
 have h : k = 0 ∨ k = 1 ∨ k = 2 ∨ k = 3 ∨ k = 4 ∨ k = 5 := by omega
 rcases h with rfl | rfl | rfl | rfl | rfl | rfl <;> rfl
def isW (i : Nat) (x : Int) : Bool := isLP x || (decide (i ≠ 0) && isDP x)
def WordR (s : ByteArray) (w : World) (e : Ending) (w' : World) : Prop := ∃ b, e = .returned (.bool b) ∧ (b = true → WordL s.data.toList) ∧ w' = w
theorem head_at : ∀ (l : List UInt8) (h : 0 < l.length), l.headD 0 = l[0]
 | [], h => absurd h (Nat.lt_irrefl _)
 | _ :: _, _ => rfl
theorem word_of {s : ByteArray} (h0 : 0 < s.size) (h : ∀ i (hi : i < s.size), isW i ((s[i]'hi).toNat : Int) = true) : WordL s.data.toList := by
 have hl : s.data.toList.length = s.size := by simp
 have hg : ∀ i (hi : i < s.data.toList.length), s.data.toList[i] = s[i]'(by omega) := fun i hi => by simp; rfl
 refine ⟨fun e => by rw [e] at hl; simp at hl; omega, ?_, fun b hb => ?_⟩
 ·have h1 := h 0 h0
  unfold isW at h1
  have e : s.data.toList.headD 0 = s[0]'h0 := by
   rw [← hg 0 (by omega)]
   exact head_at _ _
  rw [e]
  simpa using h1
 ·obtain ⟨i, hi, rfl⟩ := List.mem_iff_getElem.1 hb
  rw [hg i hi]
  have h1 := h i (by omega)
  unfold isW at h1
  unfold goP
  simp only [Bool.or_eq_true, Bool.and_eq_true] at h1 ⊢
  rcases h1 with h1 | h1
  ·exact .inl h1
  ·exact .inr h1.2
set_option maxHeartbeats 16000000 in
theorem wordN_any (s : ByteArray) (w : World) (hs : s.size ≤ 140737488351232) : Calls Tryz.prog 12 #[.string s] w (WordR s w) := by
 obtain ⟨n, hn⟩ : ∃ n, n = s.size := ⟨_, rfl⟩
 have HNN := hid_of hn
 have hlen : (s.size : Int) = (n : Int) := by rw [hn]
 have hnI : (n : Int) ≤ 140737488351232 := by omega
 clear hn hs
 go_enter Tryz.func12, Tryz.ntmps12
 go_wp2_with fail
 go_loopw [3] (fun iv wr => ∃ (i : Nat), iv = .int .i64 (i : Int) ∧ Hid (i ≤ n) ∧ Hid (∀ j (hj : j < s.size), j < i → isW j ((s[j]'hj).toNat : Int) = true) ∧ wr = w) (fun iv _ => n - (intOf iv).toNat)
 case atStart => exact ⟨0, rfl, Nat.zero_le _, (fun j _ h => absurd h (Nat.not_lt_zero _)), rfl⟩
 case round =>
  obtain ⟨i, rfl, HI, HW, rfl⟩ := hrel
  by_cases hlt : i < n
  ·have hltI : (i : Int) < (n : Int) := by omega
   have hiD : i < s.size := by rw [← HNN.out]; exact hlt
   obtain ⟨x, hx⟩ : ∃ x : Int, ((s[i]'hiD).toNat : Int) = x := ⟨_, rfl⟩
   have hix := idxL s i x hiD hx
   have HX := hid_of hx
   have HNEXT : Hid (isW i x = true → ∀ j (hj : j < s.size), j < i + 1 → isW j ((s[j]'hj).toNat : Int) = true) := fun h j hj hji => by
    rcases Nat.lt_or_ge j i with h1 | h1
    ·exact HW.out j hj h1
    ·obtain rfl : j = i := by omega
     rw [HX.out]
     exact h
   clear hx
   by_cases c1 : 97 ≤ x ∧ x ≤ 122
   ·have HT : Hid (isW i x = true) := by show _ = _; unfold isW isLP; simp; omega
    obtain ⟨c11, c12⟩ := c1
    have c13 : ¬ x < 97 := by omega
    have c14 : ¬ 122 < x := by omega
    go_wp2
    go_roundw
    case rel => exact ⟨i + 1, by go_num, hlt, HNEXT.out HT.out, trivial⟩
    case measure => simp [intOf]; omega
   ·by_cases c2 : 65 ≤ x ∧ x ≤ 90
    ·have HT : Hid (isW i x = true) := by show _ = _; unfold isW isLP; simp; omega
     obtain ⟨c21, c22⟩ := c2
     have c23 : x < 97 := by omega
     have c24 : ¬ x < 65 := by omega
     have c25 : ¬ 90 < x := by omega
     clear c1
     go_wp2
     go_roundw
     case rel => exact ⟨i + 1, by go_num, hlt, HNEXT.out HT.out, trivial⟩
     case measure => simp [intOf]; omega
    ·by_cases c3 : x = 95
     ·subst c3
      have HT : Hid (isW i 95 = true) := by show _ = _; unfold isW isLP; simp
      clear c1 c2
      go_wp2
      go_roundw
      case rel => exact ⟨i + 1, by go_num, hlt, HNEXT.out HT.out, trivial⟩
      case measure => simp [intOf]; omega
     ·have c31 : (x == 95) = false := by simpa using c3
      have c32 : (x != 95) = true := by simpa using c3
      by_cases i0 : i = 0
      ·have i1 : ((i : Int) == 0) = true := by simp; omega
       clear i0
       by_cases d1 : x < 97
       ·by_cases d2 : x < 65
        ·clear c1 c2 c3
         go_wp2
         go_ret
         exact ⟨false, rfl, (fun h => by cases h), rfl⟩
        ·have d3 : 90 < x := by omega
         clear c1 c2 c3
         go_wp2
         go_ret
         exact ⟨false, rfl, (fun h => by cases h), rfl⟩
       ·have d2 : 122 < x := by omega
        have d3 : ¬ x < 65 := by omega
        have d4 : 90 < x := by omega
        clear c1 c2 c3
        go_wp2
        go_ret
        exact ⟨false, rfl, (fun h => by cases h), rfl⟩
      ·have i1 : ((i : Int) == 0) = false := by simp; omega
       by_cases d1 : x < 97
       ·by_cases d2 : x < 65
        ·by_cases d3 : x < 48
         ·clear c1 c2 c3
          go_wp2
          go_ret
          exact ⟨false, rfl, (fun h => by cases h), rfl⟩
         ·by_cases d4 : 57 < x
          ·clear c1 c2 c3
           go_wp2
           go_ret
           exact ⟨false, rfl, (fun h => by cases h), rfl⟩
          ·have HT : Hid (isW i x = true) := by show _ = _; unfold isW isDP; simp; omega
           clear c1 c2 c3
           go_wp2
           go_roundw
           case rel => exact ⟨i + 1, by go_num, hlt, HNEXT.out HT.out, trivial⟩
           case measure => simp [intOf]; omega
        ·have d3 : 90 < x := by omega
         have d5 : ¬ x < 48 := by omega
         have d6 : 57 < x := by omega
         clear c1 c2 c3
         go_wp2
         go_ret
         exact ⟨false, rfl, (fun h => by cases h), rfl⟩
       ·have d2 : 122 < x := by omega
        have d3 : ¬ x < 65 := by omega
        have d4 : 90 < x := by omega
        have d5 : ¬ x < 48 := by omega
        have d6 : 57 < x := by omega
        clear c1 c2 c3
        go_wp2
        go_ret
        exact ⟨false, rfl, (fun h => by cases h), rfl⟩
  ·have hltI : ¬ (i : Int) < (n : Int) := by omega
   have HALL : Hid (0 < s.size → WordL s.data.toList) := fun h0 => word_of h0 (fun j hj => HW.out j hj (by have := HNN.out; omega))
   by_cases h0 : 0 < n
   ·have h0I : (0 : Int) < (n : Int) := by omega
    go_wp2
    go_ret
    exact ⟨true, rfl, (fun _ => HALL.out (by rw [← HNN.out]; exact h0)), rfl⟩
   ·have h0I : ¬ (0 : Int) < (n : Int) := by omega
    go_wp2
    go_ret
    exact ⟨false, rfl, (fun h => by cases h), rfl⟩
abbrev cmtB : ByteArray := ⟨#[59, 32, 110, 111, 32, 34, 119, 111, 114, 100, 58, 32, 255]⟩
abbrev cmtL : List UInt8 := [59, 32, 110, 111, 32, 34, 119, 111, 114, 100, 58, 32, 255]
structure W3 where
 a : Int
 b : Int
 c : Int
def W3.Ok (y : W3) : Prop := (-9223372036854775808 ≤ y.a ∧ y.a < 9223372036854775808) ∧ (-9223372036854775808 ≤ y.b ∧ y.b < 9223372036854775808) ∧ -9223372036854775808 ≤ y.c ∧ y.c < 9223372036854775808
def endL (c : Int) : List UInt8 := blL (blI c) ++ (if c.tmod 2 = 0 then [] else cmtL)
def W3.wy (y : W3) : Wy := ⟨blL (blI y.a), blL (blI y.b), endL y.c⟩
theorem W3.wy_ok (y : W3) : y.wy.Ok := by
 refine ⟨blL_blank _, blL_blank _, blL (blI y.c), (if y.c.tmod 2 = 0 then [] else cmtL), rfl, blL_blank _, ?_, ?_⟩
 ·split
  ·exact .inl rfl
  ·exact .inr ⟨_, rfl⟩
 ·split
  ·exact fun b hb => absurd hb List.not_mem_nil
  ·decide
def dgH : List UInt8 → Bool
 | [] => false
 | d :: _ => isDP d.toNat
def rwB (pre : List UInt8) (wf : Nat → Wy) : List UInt8 → Nat → List UInt8
 | [], _ => []
 | c :: r, k => if (c.toNat : Int) = 10 then (wf k).E ++ 10 :: rwB pre wf r (k + 1) else if (c.toNat : Int) = 9 then (wf k).A ++ rwB pre wf r k else if (c.toNat : Int) = 32 then 32 :: ((wf k).B ++ rwB pre wf r k)
  else if (c.toNat : Int) = 58 then (wf k).B ++ c :: rwB pre wf r k else if ((c.toNat : Int) = 76 ∨ (c.toNat : Int) = 102) ∧ dgH r = true then pre ++ c :: rwB pre wf r k else c :: rwB pre wf r k
theorem blS_str (n : Nat) : Lib.strCells (blS n) = bC (blL n) := by simp [Lib.strCells, Lib.byteCells, blS]
theorem blS_size (n : Nat) : (blS n).size ≤ 4 := by
 have := blL_len n
 show (blL n).toArray.size ≤ 4
 simpa using this
theorem cmt_str : Lib.strCells cmtB = bC cmtL := rfl
theorem bC_len (l : List UInt8) : (bC l).length = l.length := by simp [Lib.byteCells]
theorem strC_len (s : ByteArray) : (Lib.strCells s).length = s.size := by simp [Lib.strCells]
theorem Bs.cast {w0 w1 wr : World} {ao : Option Addr} {m c : Nat} {zs zs' : List Value} (h : Bs w0 w1 wr ao m c zs) (e : zs = zs') : Bs w0 w1 wr ao m c zs' := e ▸ h
structure RwI (w wr : World) (T pre : List UInt8) (wf : Nat → Wy) (S : List UInt8) (i k : Nat) (ao : Option Addr) (m c : Nat) : Prop where
 ex : ∃ w1 out, Bs w w1 wr ao m c (bC out) ∧ T = out ++ rwB pre wf (S.drop i) k
 m : m ≤ 40 * i
 k : k ≤ i
theorem RwI.next {w w' w1 : World} {T pre : List UInt8} {wf : Nat → Wy} {S out add : List UInt8} {i k k' : Nat} {ao' : Option Addr} {m m' c' : Nat} (hm : m ≤ 40 * i) (ho : m = out.length) (hT : T = out ++ rwB pre wf (S.drop i) k) (hb : Bs w w1 w' ao' m' c' (bC (out ++ add)))
  (hs : rwB pre wf (S.drop i) k = add ++ rwB pre wf (S.drop (i + 1)) k') (ha : add.length ≤ 40) (hk : k' ≤ i + 1) : RwI w w' T pre wf S (i + 1) k' ao' m' c' := by
 refine ⟨⟨w1, out ++ add, hb, by rw [hT, hs, List.append_assoc]⟩, ?_, hk⟩
 have := hb.len
 rw [bC_len, List.length_append] at this
 omega
theorem bC_int (b : UInt8) (x : Int) (h : (b.toNat : Int) = x) : [Value.int .u8 x] = bC [b] := by rw [← h]; rfl
theorem tmod_bnd (a : Int) (n : Int) (hn : 0 < n) : -n < a.tmod n ∧ a.tmod n < n := by
 by_cases h : 0 ≤ a
 ·rw [Int.tmod_eq_emod_of_nonneg h]
  have := Int.emod_nonneg a (show n ≠ 0 by omega)
  have := Int.emod_lt_of_pos a hn
  omega
 ·have e : a.tmod n = -((-a) % n) := by
   have h2 : a = -(-a) := by omega
   rw [h2, Int.neg_tmod, Int.tmod_eq_emod_of_nonneg (by omega), Int.neg_neg]
  have := Int.emod_nonneg (-a) (show n ≠ 0 by omega)
  have := Int.emod_lt_of_pos (-a) hn
  omega
theorem Bs.isB' {w0 w1 wr : World} {ao : Option Addr} {m c : Nat} {out : List UInt8} (h : Bs w0 w1 wr ao m c (bC out)) : IsB wr (.slice ao m c) (nums8 out) := by
 have e : bC out = byts (nums8 out) := by simp [Lib.byteCells, byts, nums8]
 have h' := h.own
 rw [e] at h'
 exact isB_own h'
set_option maxHeartbeats 64000000 in
theorem rewritten_any (s nm : ByteArray) (ws : List W3) (ao0 : Option Addr) (cp : Nat) (w : World) (hs : s.size ≤ 65536) (hn : nm.size ≤ 20) (hw0 : 0 < ws.length) (hwl : ws.length ≤ 9223372036854775807) (hok : ∀ y ∈ ws, y.Ok)
  (hrow : ∃ g o, ao0 = some ⟨g, o, none⟩ ∧ ∀ q y, ws[q]? = some y → w.cell? ⟨g, o + q * 3, none⟩ = some (.int .i64 y.a) ∧ w.cell? ⟨g, o + q * 3 + 1, none⟩ = some (.int .i64 y.b) ∧ w.cell? ⟨g, o + q * 3 + 2, none⟩ = some (.int .i64 y.c)) :
  Calls Tryz.prog 13 #[.string s, .slice ao0 ws.length cp, .string nm] w fun e w' => e = .returned (.string ⟨(rwB nm.data.toList (fun k => (ws.getD (k % ws.length) ⟨0, 0, 0⟩).wy) s.data.toList 0).toArray⟩) ∧ Kept (fun _ => False) w w' := by
 obtain ⟨g, o, rfl, hcell⟩ := hrow
 obtain ⟨nw, hnw⟩ : ∃ z, z = ws.length := ⟨_, rfl⟩
 obtain ⟨n, hnn⟩ : ∃ z, z = s.size := ⟨_, rfl⟩
 rw [← hnw] at hw0 hwl ⊢
 have hnz : ((nw : Int) == 0) = false := by simp; omega
 have hlen : (s.size : Int) = (n : Int) := by rw [hnn]
 have hnI : (n : Int) ≤ 65536 := by omega
 have hnwI : (nw : Int) ≤ 9223372036854775807 := by omega
 have HNN := hid_of hnn
 have HNW := hid_of hnw
 have HW := hid_of hcell
 have HOK := hid_of hok
 have HNM := hid_of hn
 have HW0 := hid_of hw0
 obtain ⟨wf, hwf⟩ : ∃ f : Nat → Wy, f = fun k => (ws.getD (k % nw) ⟨0, 0, 0⟩).wy := ⟨_, rfl⟩
 obtain ⟨T, hT0⟩ : ∃ T, T = rwB nm.data.toList wf s.data.toList 0 := ⟨_, rfl⟩
 rw [← hwf, ← hT0]
 have HWF := hid_of hwf
 have HT0 := hid_of hT0
 clear hnn hnw hcell hok hn hw0 hwl hs hwf hT0
 go_enter Tryz.func13, Tryz.ntmps13
 go_wp2_with fail
 go_loopw [7, 8, 9] (fun ov lv iv wr => ∃ (i k : Nat) (ao : Option Addr) (m c : Nat), ov = .slice ao m c ∧ lv = .int .i64 (k : Int) ∧ iv = .int .i64 (i : Int) ∧ Hid (i ≤ n) ∧ Hid (RwI w wr T nm.data.toList wf s.data.toList i k ao m c)) (fun _ _ iv _ => n - (intOf iv).toNat)
 case atStart =>
  exact ⟨0, 0, none, 0, 0, rfl, rfl, rfl, Nat.zero_le _, ⟨⟨w, [], ⟨World.ownsRow_nil _ _ _ _, Kept.refl _ _, Lib.OthersKept.refl _ _ _⟩, by rw [List.nil_append, List.drop_zero]; exact HT0.out⟩, Nat.le_refl _, Nat.le_refl _⟩⟩
 case round =>
  obtain ⟨i, k, ao, m, c, rfl, rfl, rfl, HI, HRW⟩ := hrel
  by_cases hlt : i < n
  ·have hltI : (i : Int) < (n : Int) := by omega
   have hiD : i < s.size := by rw [← HNN.out]; exact hlt
   obtain ⟨w1, out, hbs, hT⟩ := HRW.out.ex
   have HM := hid_of HRW.out.m
   have HK := hid_of HRW.out.k
   have HOL : Hid (m = out.length) := by have := hbs.len; rw [bC_len] at this; exact this
   have HT := hid_of hT
   have hm : m ≤ 2621440 := by have := HM.out; omega
   obtain ⟨q, hq⟩ : ∃ q, q = k % nw := ⟨_, rfl⟩
   have hqn : q < nw := by rw [hq]; exact Nat.mod_lt _ HW0.out
   have hrem : (k : Int).tmod (nw : Int) = (q : Int) := by rw [hq, Int.tmod_eq_emod_of_nonneg (by omega)]; rfl
   have hkI : (k : Int) ≤ 65536 := by have := HK.out; omega
   have hqI : (q : Int) ≤ 65536 := by rw [hq]; have := Nat.mod_le k nw; omega
   obtain ⟨y, hy⟩ : ∃ y, ws[q]? = some y := ⟨_, List.getElem?_eq_getElem (by rw [← HNW.out]; exact hqn)⟩
   have HY : Hid (wf k = y.wy) := by show _ = _; rw [HWF.out]; simp only; rw [← hq, List.getD, hy]; rfl
   have hyo := HOK.out y (List.mem_of_getElem? hy)
   obtain ⟨z0, z1, z2⟩ := HW.out q y hy
   obtain ⟨ya, yb, yc⟩ := y
   obtain ⟨oa, ob, oc⟩ := hyo
   have hk0 := hbs.kept
   have z0 := hk0.cell z0 id
   have z1 := hk0.cell z1 id
   have z2 := hk0.cell z2 id
   have hka : Kept (fun _ => False) wr (wr.alloc (.cells #[.int .i64 ya, .int .i64 yb, .int .i64 yc] 64)) := (Kept.refl _ _).alloc _
   have HX := hid_of (heap_alloc_new wr (.cells #[.int .i64 ya, .int .i64 yb, .int .i64 yc] 64))
   have HB := hid_of (hbs.here hka)
   clear hka hk0 hbs hT hy HRW hq
   simp only at z0 z1 z2 oa ob oc
   go_upto_region 7 with fail
   clear z0 z1 z2
   generalize wr.alloc (.cells #[.int .i64 ya, .int .i64 yb, .int .i64 yc] 64) = wb at *
   generalize wr.heap.size = gw at *
   obtain ⟨x, hx⟩ : ∃ x : Int, ((s[i]'hiD).toNat : Int) = x := ⟨_, rfl⟩
   obtain ⟨b, hb⟩ : ∃ b, b = s[i]'hiD := ⟨_, rfl⟩
   have hix := idxL s i x hiD hx
   rw [← hb] at hx
   have HBX := hid_of hx
   have HDR : Hid (s.data.toList.drop i = b :: s.data.toList.drop (i + 1)) := by
    show _ = _
    rw [List.drop_eq_getElem_cons (by simpa using hiD), hb]
    congr 1
   clear hx hb
   obtain ⟨x0, x1, x2, _⟩ := look3 HX.out
   by_cases e10 : x = 10
   ·subst e10
    have HS : Hid (rwB nm.data.toList wf (s.data.toList.drop i) k = (endL yc ++ [10]) ++ rwB nm.data.toList wf (s.data.toList.drop (i + 1)) (k + 1)) := by
     show _ = _
     rw [HDR.out, rwB, if_pos HBX.out, HY.out]
     simp [W3.wy]
    obtain ⟨zb0, zb1⟩ := tmod_bnd yc 2 (by decide)
    have HBL := hid_of (blanks_any yc wb (by omega) (by omega))
    go_wp2_with fail
    refine HBL.out.mono ?_
    rintro e w2 ⟨rfl, hk2⟩
    have HB2 := hid_of (HB.out.same hk2)
    have HX2 := hid_of (box_kept hk2 HX.out id)
    clear hk2 HBL x0 x1 x2
    obtain ⟨a3, m3, c3, w3, hr3, hb3⟩ := HB2.out.pushS (blS (blI yc)) (by have := blS_size (blI yc); omega)
    have HR3 := hid_of hr3
    have HB3 := hid_of hb3
    clear hr3 hb3
    have HX3 := hid_of (HB3.out.oth gw _ HX.out (fun q => by cases q) (by intro cs fr h; cases h))
    have hm3 : m3 ≤ 2621450 := by have := HB2.out.step HB3.out; rw [strC_len] at this; have := blS_size (blI yc); omega
    obtain ⟨x0, x1, x2, _⟩ := look3 HX3.out
    by_cases hz : yc.tmod 2 = 0
    ·have HE : Hid (endL yc = blL (blI yc)) := by show _ = _; unfold endL; rw [if_pos hz, List.append_nil]
     have z1 : (yc.tmod 2 == 0) = true := by simpa using hz
     have z2 : (yc.tmod 2 != 0) = false := by simpa using hz
     clear hz
     obtain ⟨a5, m5, c5, w5, hr5, hb5⟩ := HB3.out.push [.int .u8 10] (by simp [Value.oneCell']) (by simp; omega)
     have HR5 := hid_of hr5
     have HB5 := hid_of hb5
     clear hr5 hb5
     go_wp2_with (at_builtin; first | (refine wp_app2 rfl (.tmp 35) (.tmp 38) 22 9 rfl _ _ rfl rfl _ w3 HR3.out ?_) | (refine wp_app2 rfl (.tmp 46) (.tmp 47) 22 22 rfl _ _ rfl rfl _ w5 HR5.out ?_))
     go_roundw
     case rel => exact ⟨i + 1, k + 1, _, _, _, rfl, by go_num, by go_num, hlt, RwI.next (add := endL yc ++ [10]) HM.out HOL.out HT.out (HB5.out.cast (by rw [HE.out, blS_str, bC_app, bC_app]; simp [Lib.byteCells])) HS.out (by rw [HE.out]; have := blL_len (blI yc); simp; omega) (by have := HK.out; omega)⟩
     case measure => simp [intOf]; omega
    ·have HE : Hid (endL yc = blL (blI yc) ++ cmtL) := by show _ = _; unfold endL; rw [if_neg hz]
     have z1 : (yc.tmod 2 == 0) = false := by simpa using hz
     have z2 : (yc.tmod 2 != 0) = true := by simpa using hz
     clear hz
     obtain ⟨a4, m4, c4, w4, hr4, hb4⟩ := HB3.out.pushS cmtB (by show m3 + 13 ≤ _; omega)
     have HR4 := hid_of hr4
     have HB4 := hid_of hb4
     clear hr4 hb4
     have hm4 : m4 ≤ 2621470 := by have := HB3.out.step HB4.out; rw [strC_len] at this; have e : cmtB.size = 13 := rfl; omega
     obtain ⟨a5, m5, c5, w5, hr5, hb5⟩ := HB4.out.push [.int .u8 10] (by simp [Value.oneCell']) (by simp; omega)
     have HR5 := hid_of hr5
     have HB5 := hid_of hb5
     clear hr5 hb5
     go_wp2_with (at_builtin; first | (refine wp_app2 rfl (.tmp 35) (.tmp 38) 22 9 rfl _ _ rfl rfl _ w3 HR3.out ?_) | (refine wp_app2 rfl (.tmp 44) (.const (.string ⟨#[59, 32, 110, 111, 32, 34, 119, 111, 114, 100, 58, 32, 255]⟩)) 22 9 rfl _ _ rfl rfl _ w4 HR4.out ?_) | (refine wp_app2 rfl (.tmp 46) (.tmp 47) 22 22 rfl _ _ rfl rfl _ w5 HR5.out ?_))
     go_roundw
     case rel => exact ⟨i + 1, k + 1, _, _, _, rfl, by go_num, by go_num, hlt, RwI.next (add := endL yc ++ [10]) HM.out HOL.out HT.out (HB5.out.cast (by rw [HE.out, blS_str, cmt_str, bC_app, bC_app, bC_app]; simp [Lib.byteCells])) HS.out (by rw [HE.out]; have := blL_len (blI yc); simp; omega) (by have := HK.out; omega)⟩
     case measure => simp [intOf]; omega
   ·have f10 : (x == 10) = false := by simpa using e10
    by_cases e9 : x = 9
    ·subst e9
     have HS : Hid (rwB nm.data.toList wf (s.data.toList.drop i) k = blL (blI ya) ++ rwB nm.data.toList wf (s.data.toList.drop (i + 1)) k) := by
      show _ = _
      rw [HDR.out, rwB, if_neg (by rw [HBX.out]; omega), if_pos HBX.out, HY.out]
      simp [W3.wy]
     have HBL := hid_of (blanks_any ya wb (by omega) (by omega))
     go_wp2_with fail
     refine HBL.out.mono ?_
     rintro e w2 ⟨rfl, hk2⟩
     have HB2 := hid_of (HB.out.same hk2)
     have HX2 := hid_of (box_kept hk2 HX.out id)
     clear hk2 HBL x0 x1 x2
     obtain ⟨a3, m3, c3, w3, hr3, hb3⟩ := HB2.out.pushS (blS (blI ya)) (by have := blS_size (blI ya); omega)
     have HR3 := hid_of hr3
     have HB3 := hid_of hb3
     clear hr3 hb3
     go_wp2_with (at_builtin; refine wp_app2 rfl (.tmp 54) (.tmp 57) 22 9 rfl _ _ rfl rfl _ w3 HR3.out ?_)
     go_roundw
     case rel => exact ⟨i + 1, k, _, _, _, rfl, by go_num, by go_num, hlt, RwI.next (add := blL (blI ya)) HM.out HOL.out HT.out (HB3.out.cast (by rw [blS_str, bC_app])) HS.out (by have := blL_len (blI ya); omega) (by have := HK.out; omega)⟩
     case measure => simp [intOf]; omega
    ·have f9 : (x == 9) = false := by simpa using e9
     by_cases e32 : x = 32
     ·subst e32
      have HS : Hid (rwB nm.data.toList wf (s.data.toList.drop i) k = ([32] ++ blL (blI yb)) ++ rwB nm.data.toList wf (s.data.toList.drop (i + 1)) k) := by
       show _ = _
       rw [HDR.out, rwB, if_neg (by rw [HBX.out]; omega), if_neg (by rw [HBX.out]; omega), if_pos HBX.out, HY.out]
       simp [W3.wy]
      obtain ⟨a3, m3, c3, w3, hr3, hb3⟩ := HB.out.push [.int .u8 32] (by simp [Value.oneCell']) (by simp; omega)
      have HR3 := hid_of hr3
      have HB3 := hid_of hb3
      clear hr3 hb3
      have HX3 := hid_of (HB3.out.oth gw _ HX.out (fun q => by cases q) (by intro cs fr h; cases h))
      have HM3 : Hid (m3 = m + 1) := by have := HB.out.step HB3.out; show m3 = m + 1; simpa using this
      clear x0 x1 x2
      obtain ⟨x0, x1, x2, _⟩ := look3 HX3.out
      have HBL := hid_of (blanks_any yb w3 (by omega) (by omega))
      go_wp2_with (at_builtin; refine wp_app2 rfl (.tmp 62) (.tmp 63) 22 22 rfl _ _ rfl rfl _ w3 HR3.out ?_)
      refine HBL.out.mono ?_
      rintro e w4 ⟨rfl, hk4⟩
      have HB4 := hid_of (HB3.out.same hk4)
      clear hk4 HBL x0 x1 x2
      obtain ⟨a5, m5, c5, w5, hr5, hb5⟩ := HB4.out.pushS (blS (blI yb)) (by have := blS_size (blI yb); have := HM3.out; omega)
      have HR5 := hid_of hr5
      have HB5 := hid_of hb5
      clear hr5 hb5
      go_wp2_with (at_builtin; refine wp_app2 rfl (.tmp 65) (.tmp 68) 22 9 rfl _ _ rfl rfl _ w5 HR5.out ?_)
      go_roundw
      case rel => exact ⟨i + 1, k, _, _, _, rfl, by go_num, by go_num, hlt, RwI.next (add := [32] ++ blL (blI yb)) HM.out HOL.out HT.out (HB5.out.cast (by rw [blS_str, bC_app, bC_app, List.append_assoc]; rfl)) HS.out (by have := blL_len (blI yb); simp; omega) (by have := HK.out; omega)⟩
      case measure => simp [intOf]; omega
     ·have f32 : (x == 32) = false := by simpa using e32
      by_cases e58 : x = 58
      ·subst e58
       have HS : Hid (rwB nm.data.toList wf (s.data.toList.drop i) k = (blL (blI yb) ++ [b]) ++ rwB nm.data.toList wf (s.data.toList.drop (i + 1)) k) := by
        show _ = _
        rw [HDR.out, rwB, if_neg (by rw [HBX.out]; omega), if_neg (by rw [HBX.out]; omega), if_neg (by rw [HBX.out]; omega), if_pos HBX.out, HY.out]
        simp [W3.wy]
       have HBL := hid_of (blanks_any yb wb (by omega) (by omega))
       go_wp2_with fail
       refine HBL.out.mono ?_
       rintro e w2 ⟨rfl, hk2⟩
       have HB2 := hid_of (HB.out.same hk2)
       have HX2 := hid_of (box_kept hk2 HX.out id)
       clear hk2 HBL x0 x1 x2
       obtain ⟨a3, m3, c3, w3, hr3, hb3⟩ := HB2.out.pushS (blS (blI yb)) (by have := blS_size (blI yb); omega)
       have HR3 := hid_of hr3
       have HB3 := hid_of hb3
       clear hr3 hb3
       have hm3 : m3 ≤ 2621450 := by have := HB2.out.step HB3.out; rw [strC_len] at this; have := blS_size (blI yb); omega
       obtain ⟨a5, m5, c5, w5, hr5, hb5⟩ := HB3.out.push [.int .u8 58] (by simp [Value.oneCell']) (by simp; omega)
       have HR5 := hid_of hr5
       have HB5 := hid_of hb5
       clear hr5 hb5
       go_wp2_with (at_builtin; first | (refine wp_app2 rfl (.tmp 73) (.tmp 76) 22 9 rfl _ _ rfl rfl _ w3 HR3.out ?_) | (refine wp_app2 rfl (.tmp 78) (.tmp 80) 22 22 rfl _ _ rfl rfl _ w5 HR5.out ?_))
       go_roundw
       case rel => exact ⟨i + 1, k, _, _, _, rfl, by go_num, by go_num, hlt, RwI.next (add := blL (blI yb) ++ [b]) HM.out HOL.out HT.out (HB5.out.cast (by rw [blS_str, bC_app, bC_app, List.append_assoc, bC_int b 58 HBX.out])) HS.out (by have := blL_len (blI yb); simp; omega) (by have := HK.out; omega)⟩
       case measure => simp [intOf]; omega
      ·have f58 : (x == 58) = false := by simpa using e58
       by_cases e76 : x = 76
       ·subst e76
        by_cases hi1 : i + 1 < n
        ·have hi1I : (i : Int) + 1 < (n : Int) := by omega
         have hjD : i + 1 < s.size := by rw [← HNN.out]; exact hi1
         obtain ⟨u, hu⟩ : ∃ u : Int, ((s[i + 1]'hjD).toNat : Int) = u := ⟨_, rfl⟩
         have hjx := idxL s (i + 1) u hjD hu
         rw [show (((i + 1 : Nat)) : Int) = (i : Int) + 1 by omega] at hjx
         have HD2 : Hid (dgH (s.data.toList.drop (i + 1)) = isDP u) := by
          show _ = _
          rw [List.drop_eq_getElem_cons (by simpa using hjD)]
          show isDP ((s[i + 1]'hjD).toNat : Int) = isDP u
          rw [hu]
         clear hu
         by_cases d1 : u < 48
         ·have d2 : ¬ 48 ≤ u := by omega
          have HN : Hid (¬ dgH (s.data.toList.drop (i + 1)) = true) := by show ¬ _; rw [HD2.out]; unfold isDP; simp; omega
          have HS : Hid (rwB nm.data.toList wf (s.data.toList.drop i) k = [b] ++ rwB nm.data.toList wf (s.data.toList.drop (i + 1)) k) := by
           show _ = _
           rw [HDR.out, rwB, if_neg (by rw [HBX.out]; omega), if_neg (by rw [HBX.out]; omega), if_neg (by rw [HBX.out]; omega), if_neg (by rw [HBX.out]; omega), if_neg (by intro h; exact HN.out h.2)]
           rfl
          obtain ⟨a3, m3, c3, w3, hr3, hb3⟩ := HB.out.push [.int .u8 76] (by simp [Value.oneCell']) (by simp; omega)
          have HR3 := hid_of hr3
          have HB3 := hid_of hb3
          clear hr3 hb3
          go_wp2_with (at_builtin; refine wp_app2 rfl (.tmp 28) (.tmp 30) 22 22 rfl _ _ rfl rfl _ w3 HR3.out ?_)
          go_roundw
          case rel => exact ⟨i + 1, k, _, _, _, rfl, by go_num, by go_num, hlt, RwI.next (add := [b]) HM.out HOL.out HT.out (HB3.out.cast (by rw [bC_app, bC_int b 76 HBX.out])) HS.out (by simp) (by have := HK.out; omega)⟩
          case measure => simp [intOf]; omega
         ·have d2 : 48 ≤ u := by omega
          by_cases d3 : u ≤ 57
          ·have HDG : Hid (dgH (s.data.toList.drop (i + 1)) = true) := by show _ = _; rw [HD2.out]; unfold isDP; simp; omega
           clear d1
           have HS : Hid (rwB nm.data.toList wf (s.data.toList.drop i) k = (nm.data.toList ++ [b]) ++ rwB nm.data.toList wf (s.data.toList.drop (i + 1)) k) := by
            show _ = _
            rw [HDR.out, rwB, if_neg (by rw [HBX.out]; omega), if_neg (by rw [HBX.out]; omega), if_neg (by rw [HBX.out]; omega), if_neg (by rw [HBX.out]; omega), if_pos ⟨by rw [HBX.out]; omega, HDG.out⟩]
            simp
           obtain ⟨a3, m3, c3, w3, hr3, hb3⟩ := HB.out.pushS nm (by have := HNM.out; omega)
           have HR3 := hid_of hr3
           have HB3 := hid_of hb3
           clear hr3 hb3
           have hm3 : m3 ≤ 2621470 := by have := HB.out.step HB3.out; rw [strC_len] at this; have := HNM.out; omega
           obtain ⟨a5, m5, c5, w5, hr5, hb5⟩ := HB3.out.push [.int .u8 76] (by simp [Value.oneCell']) (by simp; omega)
           have HR5 := hid_of hr5
           have HB5 := hid_of hb5
           clear hr5 hb5
           go_wp2_with (at_builtin; first | (refine wp_app2 rfl (.tmp 110) (.tmp 111) 22 9 rfl _ _ rfl rfl _ w3 HR3.out ?_) | (refine wp_app2 rfl (.tmp 113) (.tmp 115) 22 22 rfl _ _ rfl rfl _ w5 HR5.out ?_))
           go_roundw
           case rel => exact ⟨i + 1, k, _, _, _, rfl, by go_num, by go_num, hlt, RwI.next (add := nm.data.toList ++ [b]) HM.out HOL.out HT.out (HB5.out.cast (by rw [bC_app, bC_app, List.append_assoc, bC_int b 76 HBX.out]; rfl)) HS.out (by have := HNM.out; rw [List.length_append]; have e : nm.data.toList.length = nm.size := (by simp); simp; omega) (by have := HK.out; omega)⟩
           case measure => simp [intOf]; omega
          ·have HN : Hid (¬ dgH (s.data.toList.drop (i + 1)) = true) := by show ¬ _; rw [HD2.out]; unfold isDP; simp; omega
           clear d1
           have HS : Hid (rwB nm.data.toList wf (s.data.toList.drop i) k = [b] ++ rwB nm.data.toList wf (s.data.toList.drop (i + 1)) k) := by
            show _ = _
            rw [HDR.out, rwB, if_neg (by rw [HBX.out]; omega), if_neg (by rw [HBX.out]; omega), if_neg (by rw [HBX.out]; omega), if_neg (by rw [HBX.out]; omega), if_neg (by intro h; exact HN.out h.2)]
            rfl
           obtain ⟨a3, m3, c3, w3, hr3, hb3⟩ := HB.out.push [.int .u8 76] (by simp [Value.oneCell']) (by simp; omega)
           have HR3 := hid_of hr3
           have HB3 := hid_of hb3
           clear hr3 hb3
           go_wp2_with (at_builtin; refine wp_app2 rfl (.tmp 28) (.tmp 30) 22 22 rfl _ _ rfl rfl _ w3 HR3.out ?_)
           go_roundw
           case rel => exact ⟨i + 1, k, _, _, _, rfl, by go_num, by go_num, hlt, RwI.next (add := [b]) HM.out HOL.out HT.out (HB3.out.cast (by rw [bC_app, bC_int b 76 HBX.out])) HS.out (by simp) (by have := HK.out; omega)⟩
           case measure => simp [intOf]; omega
        ·have hi1I : ¬ (i : Int) + 1 < (n : Int) := by omega
         have HN : Hid (¬ dgH (s.data.toList.drop (i + 1)) = true) := by
          show ¬ _
          rw [List.drop_of_length_le (by have := HNN.out; simp; omega)]
          decide
         have HS : Hid (rwB nm.data.toList wf (s.data.toList.drop i) k = [b] ++ rwB nm.data.toList wf (s.data.toList.drop (i + 1)) k) := by
          show _ = _
          rw [HDR.out, rwB, if_neg (by rw [HBX.out]; omega), if_neg (by rw [HBX.out]; omega), if_neg (by rw [HBX.out]; omega), if_neg (by rw [HBX.out]; omega), if_neg (by intro h; exact HN.out h.2)]
          rfl
         obtain ⟨a3, m3, c3, w3, hr3, hb3⟩ := HB.out.push [.int .u8 76] (by simp [Value.oneCell']) (by simp; omega)
         have HR3 := hid_of hr3
         have HB3 := hid_of hb3
         clear hr3 hb3
         go_wp2_with (at_builtin; refine wp_app2 rfl (.tmp 28) (.tmp 30) 22 22 rfl _ _ rfl rfl _ w3 HR3.out ?_)
         go_roundw
         case rel => exact ⟨i + 1, k, _, _, _, rfl, by go_num, by go_num, hlt, RwI.next (add := [b]) HM.out HOL.out HT.out (HB3.out.cast (by rw [bC_app, bC_int b 76 HBX.out])) HS.out (by simp) (by have := HK.out; omega)⟩
         case measure => simp [intOf]; omega
       ·have f76 : (x == 76) = false := by simpa using e76
        by_cases e102 : x = 102
        ·subst e102
         by_cases hi1 : i + 1 < n
         ·have hi1I : (i : Int) + 1 < (n : Int) := by omega
          have hjD : i + 1 < s.size := by rw [← HNN.out]; exact hi1
          obtain ⟨u, hu⟩ : ∃ u : Int, ((s[i + 1]'hjD).toNat : Int) = u := ⟨_, rfl⟩
          have hjx := idxL s (i + 1) u hjD hu
          rw [show (((i + 1 : Nat)) : Int) = (i : Int) + 1 by omega] at hjx
          have HD2 : Hid (dgH (s.data.toList.drop (i + 1)) = isDP u) := by
           show _ = _
           rw [List.drop_eq_getElem_cons (by simpa using hjD)]
           show isDP ((s[i + 1]'hjD).toNat : Int) = isDP u
           rw [hu]
          clear hu
          by_cases d1 : u < 48
          ·have d2 : ¬ 48 ≤ u := by omega
           have HN : Hid (¬ dgH (s.data.toList.drop (i + 1)) = true) := by show ¬ _; rw [HD2.out]; unfold isDP; simp; omega
           have HS : Hid (rwB nm.data.toList wf (s.data.toList.drop i) k = [b] ++ rwB nm.data.toList wf (s.data.toList.drop (i + 1)) k) := by
            show _ = _
            rw [HDR.out, rwB, if_neg (by rw [HBX.out]; omega), if_neg (by rw [HBX.out]; omega), if_neg (by rw [HBX.out]; omega), if_neg (by rw [HBX.out]; omega), if_neg (by intro h; exact HN.out h.2)]
            rfl
           obtain ⟨a3, m3, c3, w3, hr3, hb3⟩ := HB.out.push [.int .u8 102] (by simp [Value.oneCell']) (by simp; omega)
           have HR3 := hid_of hr3
           have HB3 := hid_of hb3
           clear hr3 hb3
           go_wp2_with (at_builtin; refine wp_app2 rfl (.tmp 28) (.tmp 30) 22 22 rfl _ _ rfl rfl _ w3 HR3.out ?_)
           go_roundw
           case rel => exact ⟨i + 1, k, _, _, _, rfl, by go_num, by go_num, hlt, RwI.next (add := [b]) HM.out HOL.out HT.out (HB3.out.cast (by rw [bC_app, bC_int b 102 HBX.out])) HS.out (by simp) (by have := HK.out; omega)⟩
           case measure => simp [intOf]; omega
          ·have d2 : 48 ≤ u := by omega
           by_cases d3 : u ≤ 57
           ·have HDG : Hid (dgH (s.data.toList.drop (i + 1)) = true) := by show _ = _; rw [HD2.out]; unfold isDP; simp; omega
            clear d1
            have HS : Hid (rwB nm.data.toList wf (s.data.toList.drop i) k = (nm.data.toList ++ [b]) ++ rwB nm.data.toList wf (s.data.toList.drop (i + 1)) k) := by
             show _ = _
             rw [HDR.out, rwB, if_neg (by rw [HBX.out]; omega), if_neg (by rw [HBX.out]; omega), if_neg (by rw [HBX.out]; omega), if_neg (by rw [HBX.out]; omega), if_pos ⟨by rw [HBX.out]; omega, HDG.out⟩]
             simp
            obtain ⟨a3, m3, c3, w3, hr3, hb3⟩ := HB.out.pushS nm (by have := HNM.out; omega)
            have HR3 := hid_of hr3
            have HB3 := hid_of hb3
            clear hr3 hb3
            have hm3 : m3 ≤ 2621470 := by have := HB.out.step HB3.out; rw [strC_len] at this; have := HNM.out; omega
            obtain ⟨a5, m5, c5, w5, hr5, hb5⟩ := HB3.out.push [.int .u8 102] (by simp [Value.oneCell']) (by simp; omega)
            have HR5 := hid_of hr5
            have HB5 := hid_of hb5
            clear hr5 hb5
            go_wp2_with (at_builtin; first | (refine wp_app2 rfl (.tmp 110) (.tmp 111) 22 9 rfl _ _ rfl rfl _ w3 HR3.out ?_) | (refine wp_app2 rfl (.tmp 113) (.tmp 115) 22 22 rfl _ _ rfl rfl _ w5 HR5.out ?_))
            go_roundw
            case rel => exact ⟨i + 1, k, _, _, _, rfl, by go_num, by go_num, hlt, RwI.next (add := nm.data.toList ++ [b]) HM.out HOL.out HT.out (HB5.out.cast (by rw [bC_app, bC_app, List.append_assoc, bC_int b 102 HBX.out]; rfl)) HS.out (by have := HNM.out; rw [List.length_append]; have e : nm.data.toList.length = nm.size := (by simp); simp; omega) (by have := HK.out; omega)⟩
            case measure => simp [intOf]; omega
           ·have HN : Hid (¬ dgH (s.data.toList.drop (i + 1)) = true) := by show ¬ _; rw [HD2.out]; unfold isDP; simp; omega
            clear d1
            have HS : Hid (rwB nm.data.toList wf (s.data.toList.drop i) k = [b] ++ rwB nm.data.toList wf (s.data.toList.drop (i + 1)) k) := by
             show _ = _
             rw [HDR.out, rwB, if_neg (by rw [HBX.out]; omega), if_neg (by rw [HBX.out]; omega), if_neg (by rw [HBX.out]; omega), if_neg (by rw [HBX.out]; omega), if_neg (by intro h; exact HN.out h.2)]
             rfl
            obtain ⟨a3, m3, c3, w3, hr3, hb3⟩ := HB.out.push [.int .u8 102] (by simp [Value.oneCell']) (by simp; omega)
            have HR3 := hid_of hr3
            have HB3 := hid_of hb3
            clear hr3 hb3
            go_wp2_with (at_builtin; refine wp_app2 rfl (.tmp 28) (.tmp 30) 22 22 rfl _ _ rfl rfl _ w3 HR3.out ?_)
            go_roundw
            case rel => exact ⟨i + 1, k, _, _, _, rfl, by go_num, by go_num, hlt, RwI.next (add := [b]) HM.out HOL.out HT.out (HB3.out.cast (by rw [bC_app, bC_int b 102 HBX.out])) HS.out (by simp) (by have := HK.out; omega)⟩
            case measure => simp [intOf]; omega
         ·have hi1I : ¬ (i : Int) + 1 < (n : Int) := by omega
          have HN : Hid (¬ dgH (s.data.toList.drop (i + 1)) = true) := by
           show ¬ _
           rw [List.drop_of_length_le (by have := HNN.out; simp; omega)]
           decide
          have HS : Hid (rwB nm.data.toList wf (s.data.toList.drop i) k = [b] ++ rwB nm.data.toList wf (s.data.toList.drop (i + 1)) k) := by
           show _ = _
           rw [HDR.out, rwB, if_neg (by rw [HBX.out]; omega), if_neg (by rw [HBX.out]; omega), if_neg (by rw [HBX.out]; omega), if_neg (by rw [HBX.out]; omega), if_neg (by intro h; exact HN.out h.2)]
           rfl
          obtain ⟨a3, m3, c3, w3, hr3, hb3⟩ := HB.out.push [.int .u8 102] (by simp [Value.oneCell']) (by simp; omega)
          have HR3 := hid_of hr3
          have HB3 := hid_of hb3
          clear hr3 hb3
          go_wp2_with (at_builtin; refine wp_app2 rfl (.tmp 28) (.tmp 30) 22 22 rfl _ _ rfl rfl _ w3 HR3.out ?_)
          go_roundw
          case rel => exact ⟨i + 1, k, _, _, _, rfl, by go_num, by go_num, hlt, RwI.next (add := [b]) HM.out HOL.out HT.out (HB3.out.cast (by rw [bC_app, bC_int b 102 HBX.out])) HS.out (by simp) (by have := HK.out; omega)⟩
          case measure => simp [intOf]; omega
        ·have f102 : (x == 102) = false := by simpa using e102
         have HS : Hid (rwB nm.data.toList wf (s.data.toList.drop i) k = [b] ++ rwB nm.data.toList wf (s.data.toList.drop (i + 1)) k) := by
          show _ = _
          rw [HDR.out, rwB, if_neg (by rw [HBX.out]; omega), if_neg (by rw [HBX.out]; omega), if_neg (by rw [HBX.out]; omega), if_neg (by rw [HBX.out]; omega), if_neg (by rw [HBX.out]; intro h; omega)]
          rfl
         obtain ⟨a3, m3, c3, w3, hr3, hb3⟩ := HB.out.push [.int .u8 x] (by simp [Value.oneCell']) (by simp; omega)
         have HR3 := hid_of hr3
         have HB3 := hid_of hb3
         clear hr3 hb3
         go_wp2_with (at_builtin; refine wp_app2 rfl (.tmp 28) (.tmp 30) 22 22 rfl _ _ rfl rfl _ w3 HR3.out ?_)
         go_roundw
         case rel => exact ⟨i + 1, k, _, _, _, rfl, by go_num, by go_num, hlt, RwI.next (add := [b]) HM.out HOL.out HT.out (HB3.out.cast (by rw [bC_app, bC_int b x HBX.out])) HS.out (by simp) (by have := HK.out; omega)⟩
         case measure => simp [intOf]; omega
  ·have hltI : ¬ (i : Int) < (n : Int) := by omega
   obtain ⟨w1, out, hbs, hT⟩ := HRW.out.ex
   have hin : i = n := by have := HI.out; omega
   have HTT : Hid (T = out) := by
    show _ = _
    rw [hT, List.drop_of_length_le (by have := HNN.out; simp; omega)]
    simp [rwB]
   have hcv := conv_str wr (.slice ao m c) (nums8 out) (by
    have h := hbs.isB'
    exact h)
   rw [strN8, ← HTT.out] at hcv
   have HKW := hid_of hbs.kept
   clear hbs hT
   go_wp2
   go_ret
   exact ⟨rfl, HKW.out⟩
def qW : List UInt8 → Bool
 | [] => true
 | b :: r => (b.toNat != 10 && b.toNat != 9 && b.toNat != 32 && b.toNat != 58 && (!(b.toNat == 76 || b.toNat == 102) || !dgH r)) && qW r
theorem dgH_app (r rest : List UInt8) (h : dgH rest = false) : dgH (r ++ rest) = dgH r := by
 cases r with
 | nil => rw [List.nil_append, h]; rfl
 | cons a s => rfl
theorem rw_quiet (pre : List UInt8) (wf : Nat → Wy) (k : Nat) (rest : List UInt8) (hr : dgH rest = false) : ∀ s, qW s = true → rwB pre wf (s ++ rest) k = s ++ rwB pre wf rest k
 | [], _ => rfl
 | b :: s, h => by
  unfold qW at h
  simp only [Bool.and_eq_true, bne_iff_ne, ne_eq, Bool.or_eq_true, Bool.not_eq_true', Bool.or_eq_false_iff, beq_eq_false_iff_ne] at h
  obtain ⟨⟨⟨⟨⟨h1, h2⟩, h3⟩, h4⟩, h5⟩, h6⟩ := h
  rw [List.cons_append, rwB, if_neg (by omega), if_neg (by omega), if_neg (by omega), if_neg (by omega), if_neg (by
   rintro ⟨ha, hb⟩
   rw [dgH_app s rest hr] at hb
   rcases h5 with h5 | h5
   ·rcases ha with ha | ha
    ·exact h5.1 (by omega)
    ·exact h5.2 (by omega)
   ·rw [h5] at hb
    cases hb), rw_quiet pre wf k rest hr s h6]
  rfl
theorem dig_quiet : ∀ s : List UInt8, (∀ b ∈ s, b.toNat = 45 ∨ (48 ≤ b.toNat ∧ b.toNat ≤ 57)) → qW s = true
 | [], _ => rfl
 | b :: s, h => by
  have hb := h b List.mem_cons_self
  have := dig_quiet s (fun c hc => h c (List.mem_cons_of_mem _ hc))
  unfold qW
  rw [this]
  have e1 : (b.toNat != 10) = true := by simp; omega
  have e2 : (b.toNat != 9) = true := by simp; omega
  have e3 : (b.toNat != 32) = true := by simp; omega
  have e4 : (b.toNat != 58) = true := by simp; omega
  have e5 : (b.toNat == 76) = false := by simp; omega
  have e6 : (b.toNat == 102) = false := by simp; omega
  rw [e1, e2, e3, e4, e5, e6]
  rfl
theorem itoa_quiet (i : Int) : qW (Lib.itoa i) = true := dig_quiet _ (fun b hb => by
 unfold Lib.itoa at hb
 split at hb
 ·rcases List.mem_cons.1 hb with rfl | hb
  ·exact .inl rfl
  ·exact .inr (dec_all _ b hb)
 ·exact .inr (dec_all _ b hb))
def Tk.qt : Tk → Prop
 | .w s => qW s = true
 | .q _ => False
 | _ => True
theorem tail_dig (ts : List Tk) (h : lin true ts) (rest : List UInt8) : dgH (ts.flatMap (Tk.txt [] plY) ++ 10 :: rest) = false := by
 cases ts with
 | nil => rfl
 | cons t ts =>
  cases t with
  | sp => rfl
  | col => rfl
  | tab => exact h.elim
  | w s => exact h.elim
  | nm c k => exact h.elim
  | num i => exact h.elim
  | q xs => exact h.elim
theorem rw_line (pre : List UInt8) (wf : Nat → Wy) (k : Nat) (rest : List UInt8) : ∀ (ts : List Tk) (q : Bool), lin q ts → (∀ t ∈ ts, t.qt) → rwB pre wf (ts.flatMap (Tk.txt [] plY) ++ 10 :: rest) k = (ts.flatMap (Tk.txt pre (wf k)) ++ (wf k).E) ++ 10 :: rwB pre wf rest (k + 1)
 | [], q, _, _ => by
  rw [List.flatMap_nil, List.nil_append, rwB, if_pos (by rfl)]
  rfl
 | t :: ts, q, hl, hq => by
  have hq2 : ∀ t ∈ ts, t.qt := fun x hx => hq x (List.mem_cons_of_mem _ hx)
  have ht := hq t List.mem_cons_self
  have hN : ∀ q', lin q' ts → rwB pre wf (ts.flatMap (Tk.txt [] plY) ++ 10 :: rest) k = (ts.flatMap (Tk.txt pre (wf k)) ++ (wf k).E) ++ 10 :: rwB pre wf rest (k + 1) := fun q' h => rw_line pre wf k rest ts q' h hq2
  have hS : (t :: ts).flatMap (Tk.txt [] plY) ++ 10 :: rest = t.txt [] plY ++ (ts.flatMap (Tk.txt [] plY) ++ 10 :: rest) := by simp
  have hR : ((t :: ts).flatMap (Tk.txt pre (wf k)) ++ (wf k).E) ++ 10 :: rwB pre wf rest (k + 1) = t.txt pre (wf k) ++ ((ts.flatMap (Tk.txt pre (wf k)) ++ (wf k).E) ++ 10 :: rwB pre wf rest (k + 1)) := by simp
  rw [hS, hR]
  cases t with
  | tab =>
   have h2 : ∃ q', lin q' ts := by cases q; exact ⟨_, hl⟩; exact hl.elim
   obtain ⟨q', h2⟩ := h2
   show rwB pre wf (9 :: _) k = (wf k).A ++ _
   rw [rwB, if_neg (by decide), if_pos (by rfl)]
   show (wf k).A ++ rwB pre wf (ts.flatMap (Tk.txt [] plY) ++ 10 :: rest) k = _
   rw [hN q' h2]
  | sp =>
   have h2 : ∃ q', lin q' ts := by cases q; exact absurd hl.1 (by decide); exact ⟨_, hl⟩
   obtain ⟨q', h2⟩ := h2
   show rwB pre wf (32 :: _) k = 32 :: (wf k).B ++ _
   rw [rwB, if_neg (by decide), if_neg (by decide), if_pos (by rfl)]
   show 32 :: ((wf k).B ++ rwB pre wf (ts.flatMap (Tk.txt [] plY) ++ 10 :: rest) k) = _
   rw [hN q' h2]
   rfl
  | col =>
   have h2 : ∃ q', lin q' ts := by cases q; exact absurd hl.1 (by decide); exact ⟨_, hl⟩
   obtain ⟨q', h2⟩ := h2
   show rwB pre wf (58 :: _) k = ((wf k).B ++ [58]) ++ _
   rw [rwB, if_neg (by decide), if_neg (by decide), if_neg (by decide), if_pos (by rfl)]
   show (wf k).B ++ 58 :: rwB pre wf (ts.flatMap (Tk.txt [] plY) ++ 10 :: rest) k = _
   rw [hN q' h2]
   simp
  | w s =>
   have h2 : lin true ts := by cases q; exact hl.2.2; exact hl.elim
   show rwB pre wf (s ++ _) k = s ++ _
   rw [rw_quiet pre wf k _ (tail_dig ts h2 rest) s ht, hN true h2]
  | nm c n =>
   have h2 : lin true ts ∧ (c = 76 ∨ c = 102) := by cases q; exact ⟨hl.2.2, hl.2.1⟩; exact hl.elim
   show rwB pre wf (([] ++ c :: Lib.decDigits n) ++ _) k = (pre ++ c :: Lib.decDigits n) ++ _
   have hd : ∀ r, dgH (Lib.decDigits n ++ r) = true := fun r => by
    cases hc : Lib.decDigits n with
    | nil => exact absurd hc (dec_ne n)
    | cons d ds =>
     have := dec_all n d (by rw [hc]; exact List.mem_cons_self)
     show isDP (d.toNat : Int) = true
     unfold isDP
     simp
     omega
   have hc : ((c.toNat : Int) = 76 ∨ (c.toNat : Int) = 102) ∧ (c.toNat : Int) ≠ 10 ∧ (c.toNat : Int) ≠ 9 ∧ (c.toNat : Int) ≠ 32 ∧ (c.toNat : Int) ≠ 58 := by rcases h2.2 with rfl | rfl <;> decide
   rw [List.nil_append, List.cons_append, rwB, if_neg hc.2.1, if_neg hc.2.2.1, if_neg hc.2.2.2.1, if_neg hc.2.2.2.2, if_pos ⟨hc.1, hd _⟩, rw_quiet pre wf k _ (tail_dig ts h2.1 rest) _ (dig_quiet _ (fun b hb => .inr (dec_all n b hb))), hN true h2.1]
   simp
  | num i =>
   have h2 : lin true ts := by cases q; exact hl.2.2; exact hl.elim
   show rwB pre wf (Lib.itoa i ++ _) k = Lib.itoa i ++ _
   rw [rw_quiet pre wf k _ (tail_dig ts h2 rest) _ (itoa_quiet i), hN true h2]
  | q xs => exact ht.elim
theorem rw_lines (pre : List UInt8) (wf : Nat → Wy) : ∀ (L : List (List Tk)) (k : Nat), (∀ ts ∈ L, lin false ts ∧ ∀ t ∈ ts, t.qt) → rwB pre wf (flT L) k = flW pre wf k L
 | [], k, _ => rfl
 | ts :: L, k, h => by
  have h1 := h ts List.mem_cons_self
  have e : flT (ts :: L) = ts.flatMap (Tk.txt [] plY) ++ 10 :: flT L := by simp [flT, lnT]
  rw [e, rw_line pre wf k (flT L) ts false h1.1 h1.2, rw_lines pre wf L (k + 1) (fun x hx => h x (List.mem_cons_of_mem _ hx))]
  rfl
theorem ins_quiet : ∀ n : Nat, n < 46 → qW (insL.getD n Sh.none).nm.data.toList = true := by decide +kernel
theorem sys_quiet : ∀ n : Nat, n < sysL.length → qW (sysL.getD n Sh.none).nm.data.toList = true := by decide +kernel
theorem qt_ins {x : IN} (h : errI x = 0) (pl fs : Int) : ∀ t ∈ insT x pl fs, t.qt := by
 obtain ⟨n, hn, hop, hro, ho, hm⟩ := ins_right h
 intro t ht
 unfold insT at ht
 rcases List.mem_cons.1 ht with rfl | ht
 ·trivial
 ·rcases List.mem_cons.1 ht with rfl | ht
  ·show qW _ = true
   rw [hro]
   exact ins_quiet n hn
  ·unfold tkO at ht
   split at ht
   ·exact absurd ht List.not_mem_nil
   ·split at ht
    ·simp only [List.mem_cons, List.not_mem_nil, or_false] at ht
     rcases ht with rfl | rfl <;> trivial
    ·split at ht
     ·simp only [List.mem_cons, List.not_mem_nil, or_false] at ht
      rcases ht with rfl | rfl <;> trivial
     ·split at ht
      ·rename_i h5
       simp only [List.mem_cons, List.not_mem_nil, or_false] at ht
       rcases ht with rfl | rfl
       ·trivial
       ·have hk5 : kix n = 5 := by rw [ho] at h5; omega
        have hb := kix_pos hm (by omega)
        have he := (kix_o n hn).2.1 hk5
        rw [hk5, he] at hb
        obtain ⟨i, hi⟩ := Int.eq_ofNat_of_zero_le hb.1
        have hil : i < sysL.length := by omega
        have hrs := (row_at (L := sysL) (k := i) hil).1
        show qW _ = true
        rw [hi, hrs]
        exact sys_quiet i hil
      ·simp only [List.mem_cons, List.not_mem_nil, or_false] at ht
       rcases ht with rfl | rfl <;> trivial
theorem qt_prog {p : PG} (hg : PgGood p) (hd : p.data = []) : ∀ ts ∈ progT p, ∀ t ∈ ts, t.qt := by
 intro ts h t ht
 rcases List.mem_cons.1 h with rfl | h
 ·simp only [List.mem_cons, List.not_mem_nil, or_false] at ht
  rcases ht with rfl | rfl | rfl
  ·show qW memN = true
   decide
  ·trivial
  ·trivial
 ·rcases List.mem_append.1 h with h | h
  ·unfold datT at h
   simp [hd] at h
  ·obtain ⟨k, _, h⟩ := List.mem_flatMap.1 h
   unfold fnAtT at h
   split at h
   ·rename_i f hf
    have hfm := List.mem_of_getElem? hf
    rcases List.mem_cons.1 h with rfl | h
    ·simp only [hdT, List.mem_cons, List.not_mem_nil, or_false] at ht
     rcases ht with rfl | rfl | rfl | rfl | rfl | rfl | rfl | rfl | rfl
     ·show qW funN = true
      decide
     all_goals trivial
    ·obtain ⟨j, _, h⟩ := List.mem_flatMap.1 h
     rcases List.mem_append.1 h with h | h
     ·unfold lbT at h
      split at h
      ·rw [List.mem_singleton.1 h] at ht
       simp only [List.mem_cons, List.not_mem_nil, or_false] at ht
       rcases ht with rfl | rfl <;> trivial
      ·exact absurd h List.not_mem_nil
     ·unfold inT at h
      split at h
      ·rename_i x hx
       rw [List.mem_singleton.1 h] at ht
       exact qt_ins ((hg.fn f hfm).2 x (List.mem_of_getElem? hx)) _ _ t ht
      ·exact absurd h List.not_mem_nil
   ·exact absurd h List.not_mem_nil
theorem rewrite_back {p : PG} (hE : printE p = 0) (hp : p.Ok) (hd : p.data = []) {pre : List UInt8} (hpre : WordL pre) {wf : Nat → Wy} (hw : ∀ n, (wf n).Ok) (hl : (rwB pre wf (printS p).data.toList 0).length ≤ 65536) : ∃ R, readP (rwB pre wf (printS p).data.toList 0) = .inr R ∧ pgG R = p := by
 have hd0 : ∀ x ∈ p.data, 0 ≤ x ∧ x ≤ 255 := fun x hx => by rw [hd] at hx; exact absurd hx List.not_mem_nil
 obtain ⟨hc, _, e⟩ := print_text hE hd0
 have hg := check_good hc
 have e2 : (printS p).data.toList = flT (progT p) := by rw [e]
 rw [e2, rw_lines pre wf (progT p) 0 (fun ts h => ⟨lin_prog hg hp hd0 ts h, qt_prog hg hd ts h⟩)] at hl ⊢
 exact way_back (.inr hpre) hw hc hp hd0 hl
theorem parse_out (D : ByteArray) (hD : D.size ≤ 9223372036854775807) (p : PG) (R : Rdr) (h1 : readP D.data.toList = .inr R) (h2 : pgG R = p) (w : World) (hG : Gs w) : Calls Tryz.prog 10 #[.string D] w (PgOut p w) := by
 refine (parseG D hD w hG).mono ?_
 intro e w' hpar
 rw [h1] at hpar
 obtain ⟨hk, ⟨ln, er, g, hh, _⟩ | ⟨R', v, hh, _, _, _, rfl, hpg⟩⟩ := hpar
 ·cases hh
 ·cases hh
  rw [h2] at hpg
  obtain ⟨m, da, dn, dc, fa, fn, fc, rfl⟩ := pg_shapeK hpg
  exact ⟨hk, _, _, _, _, _, _, _, rfl, hpg⟩
theorem pg_nodata {w : World} {B : Nat} {m m' : Int} {da fa : Option Addr} {dn dc fn fc : Nat} {p : PG} (h : PgIs w B (.agg #[.int .i64 m, .slice da dn dc, .slice fa fn fc]) p) : PgIs w B (.agg #[.int .i64 m, .slice none 0 0, .slice fa fn fc]) ⟨p.mem, [], p.fns⟩ := by
 obtain ⟨dv, fv, e, _, _, hf⟩ := h
 injection e with e
 have e1 : Value.int .i64 m = .int .i64 p.mem := by
  have := congrArg (fun a : Array Value => a[0]?) e
  simpa using this
 have e2 : Value.slice fa fn fc = fv := by
  have := congrArg (fun a : Array Value => a[2]?) e
  simpa using this
 rw [e1, e2]
 exact ⟨_, _, rfl, .inl ⟨rfl, _, _, rfl⟩, (fun q hq => by cases hq), hf⟩
set_option maxHeartbeats 32000000 in
theorem rewrites_walk (vp : Value) (p0 : PG) (ws : List W3) (ao0 : Option Addr) (cp : Nat) (nm : ByteArray) (hn : nm.size ≤ 140737488351232) (w : World) (hG : Gs w) (hp : PgIs w w.heap.size vp p0) (op : p0.Ok) (hwl : ws.length ≤ 9223372036854775807) (hok : ∀ y ∈ ws, y.Ok)
  (hrow : ∀ q y, ws[q]? = some y → ∃ g o, ao0 = some ⟨g, o, none⟩ ∧ w.cell? ⟨g, o + q * 3, none⟩ = some (.int .i64 y.a) ∧ w.cell? ⟨g, o + q * 3 + 1, none⟩ = some (.int .i64 y.b) ∧ w.cell? ⟨g, o + q * 3 + 2, none⟩ = some (.int .i64 y.c)) :
  Calls Tryz.prog 4 #[vp, .slice ao0 ws.length cp, .string nm] w fun e w' => e = .returned (.bool true) ∧ Kept (fun _ => False) w w' := by
 obtain ⟨pm, pda, pdn, pdc, pfa, pfn, pfc, rfl⟩ := pg_shapeK hp
 have hk1 : Kept (fun _ => False) w (w.alloc (.cells #[.int .i64 pm, .slice pda pdn pdc, .slice pfa pfn pfc] 25)) := (Kept.refl _ _).alloc _
 have HX1 := hid_of (heap_alloc_new w (.cells #[.int .i64 pm, .slice pda pdn pdc, .slice pfa pfn pfc] 25))
 have HP1 := hid_of ((pg_nodata (m' := 0) hp).kept hk1 (fun _ _ f => f))
 have HKN := hid_of (known_all _ (hG.same hk1))
 have HK1 := hid_of hk1
 have HG := hid_of hG
 have hop : (⟨p0.mem, [], p0.fns⟩ : PG).Ok := ⟨op.mem, ⟨fun x hx => absurd hx List.not_mem_nil, Nat.zero_le _⟩, op.fns, op.len⟩
 obtain ⟨p, hpe⟩ : ∃ q : PG, q = ⟨p0.mem, [], p0.fns⟩ := ⟨_, rfl⟩
 rw [← hpe] at HP1 hop
 have HOP := hid_of hop
 have HPD : Hid (p.data = []) := by rw [hpe]; exact rfl
 have HROW := hid_of hrow
 have HOKW := hid_of hok
 obtain ⟨nw, hnw⟩ : ∃ z, z = ws.length := ⟨_, rfl⟩
 have hnwI : (nw : Int) ≤ 9223372036854775807 := by omega
 have HNW := hid_of hnw
 have HNM := hid_of hn
 have HWL := hid_of hwl
 rw [← hnw]
 clear hk1 hp hG op hop hpe hrow hok hnw hn hwl
 go_enter Tryz.func4, Tryz.ntmps4
 go_upto_region 1 with fail
 have HLO : Hid (w.heap.size ≤ w.heap.size) := Nat.le_refl _
 have HWS : Hid (∀ wx, Kept (fun _ => False) w wx → w.heap.size ≤ wx.heap.size) := fun wx h => h.size
 generalize w.alloc (.cells #[.int .i64 pm, .slice pda pdn pdc, .slice pfa pfn pfc] 25) = w1 at *
 generalize hgp : w.heap.size = gp at *
 have HGP := hid_of hgp
 clear hgp
 go_wp2_with fail
 refine HKN.out.mono ?_
 rintro e w2 ⟨rfl, hk2⟩
 have HX2 := hid_of (box_kept hk2 HX1.out id)
 have HP2 := hid_of (HP1.out.kept hk2 (fun _ _ f => f))
 have HK2 := hid_of (HK1.out.trans hk2)
 clear hk2 HKN HX1 HP1 HK1
 obtain ⟨c0, c1, c2, f0, f1, f2⟩ := look3 HX2.out
 have hx3 := set_block _ _ 1 _ _ _ HX2.out (.slice none 0 0)
 have hk3 := kept_set w2 gp 1 (.slice none 0 0)
 have HX3 : Hid ((w2.setCell ⟨gp, 1, none⟩ (.slice none 0 0)).heap[gp]? = some (.cells #[.int .i64 pm, .slice none 0 0, .slice pfa pfn pfc] 25 (0, 0))) := hx3
 have HP3 := hid_of (HP2.out.kept hk3 (fun q hq e => by omega))
 have HK3 := hid_of (HK2.out.step hk3 (fun q hq e => by have := HGP.out; omega))
 clear hx3 hk3
 go_upto_region 4 with fail
 clear c0 c1 c2 f0 f1 f2 HX2 HP2 HK2
 generalize w2.setCell ⟨gp, 1, none⟩ (.slice none 0 0) = w3 at *
 have HL3 : Hid (gp ≤ w3.heap.size) := HWS.out _ HK3.out
 obtain ⟨pe, hpe⟩ : ∃ z, z = printE p := ⟨_, rfl⟩
 obtain ⟨ps, hps⟩ : ∃ z, z = printS p := ⟨_, rfl⟩
 have hpr := print_any _ p _ w3 ((HG.out.same HK3.out).gl) HP3.out HL3.out HOP.out
 rw [← hpe, ← hps] at hpr
 have HPR := hid_of hpr
 have HPE := hid_of hpe
 have HPS := hid_of hps
 clear hpr hpe hps
 obtain ⟨a0, a1, a2, _⟩ := look3 HX3.out
 go_wp2_with fail
 refine HPR.out.mono ?_
 rintro e w4 ⟨rfl, hk4⟩
 have HX4 := hid_of (box_kept hk4 HX3.out id)
 have HP4 := hid_of (HP3.out.kept hk4 (fun _ _ f => f))
 have HK4 := hid_of (HK3.out.trans hk4)
 have HL4 : Hid (gp ≤ w4.heap.size) := HWS.out _ HK4.out
 clear hk4 HPR HX3 HP3 HK3 HL3 a0 a1 a2
 have hrc := rcheck_any _ p w4 _ HP4.out HL4.out HOP.out
 rcases printE_cases p with ⟨hc, hx⟩ | ⟨hc, hx⟩ | ⟨hc, hx, hx2, hx0⟩
 ·obtain rfl : pe = 0 := HPE.out.trans hx
  have HPX := hid_of hx
  clear hrc hc hx
  by_cases hw0 : nw = 0
  ·have e0 : ((nw : Int) == 0) = true := by simp; omega
   clear hw0
   go_wp2
   go_ret
   exact ⟨rfl, HK4.out⟩
  ·have e0 : ((nw : Int) == 0) = false := by simp; omega
   have HWP : Hid (0 < ws.length) := by have := HNW.out; show 0 < _; omega
   clear hw0
   have HWO := hid_of (wordN_any nm w4 HNM.out)
   go_wp2_with fail
   refine HWO.out.mono ?_
   rintro e w5 ⟨b, rfl, hb, rfl⟩
   clear HWO
   cases b
   ·clear hb
    go_wp2
    go_ret
    exact ⟨rfl, HK4.out⟩
   ·have HWL2 := hid_of (hb rfl)
    clear hb
    by_cases hbig : (20 : Int) < (nm.size : Int)
    ·go_wp2
     go_ret
     exact ⟨rfl, HK4.out⟩
    ·have HN20 : Hid (nm.size ≤ 20) := by show nm.size ≤ 20; omega
     have HCELL : Hid (∃ g o, ao0 = some ⟨g, o, none⟩ ∧ ∀ q y, ws[q]? = some y → w5.cell? ⟨g, o + q * 3, none⟩ = some (.int .i64 y.a) ∧ w5.cell? ⟨g, o + q * 3 + 1, none⟩ = some (.int .i64 y.b) ∧ w5.cell? ⟨g, o + q * 3 + 2, none⟩ = some (.int .i64 y.c)) := by
      obtain ⟨g, o, e1, -⟩ := HROW.out 0 _ (List.getElem?_eq_getElem HWP.out)
      refine ⟨g, o, e1, fun q y hq => ?_⟩
      obtain ⟨g', o', e2, h0, h1, h2⟩ := HROW.out q y hq
      rw [e1] at e2
      cases e2
      exact ⟨HK4.out.cell h0 id, HK4.out.cell h1 id, HK4.out.cell h2 id⟩
     have hrw := rewritten_any ps nm ws ao0 cp w5 (by rw [HPS.out]; exact print_size p HOP.out) HN20.out HWP.out HWL.out HOKW.out HCELL.out
     rw [← HNW.out] at hrw
     obtain ⟨wf, hwf⟩ : ∃ f : Nat → Wy, f = fun k => (ws.getD (k % nw) ⟨0, 0, 0⟩).wy := ⟨_, rfl⟩
     have HWF : Hid (∀ k, (wf k).Ok) := fun k => by rw [hwf]; exact W3.wy_ok _
     rw [← hwf] at hrw
     obtain ⟨tt, htt⟩ : ∃ z : ByteArray, z = ⟨(rwB nm.data.toList wf ps.data.toList 0).toArray⟩ := ⟨_, rfl⟩
     rw [← htt] at hrw
     have HTL : Hid (tt.data.toList = rwB nm.data.toList wf ps.data.toList 0) := by rw [htt]; show _ = _; simp
     have HRW := hid_of hrw
     clear hrw hwf htt HCELL
     go_wp2_with fail
     refine HRW.out.mono ?_
     rintro e w6 ⟨rfl, hk6⟩
     have HX6 := hid_of (box_kept hk6 HX4.out id)
     have HP6 := hid_of (HP4.out.kept hk6 (fun _ _ f => f))
     have HK6 := hid_of (HK4.out.trans hk6)
     clear hk6 HRW HX4 HP4 HK4
     by_cases hl : (65536 : Int) < (tt.size : Int)
     ·go_wp2
      go_ret
      exact ⟨rfl, HK6.out⟩
     ·have HTS : Hid (tt.size ≤ 65536) := by show tt.size ≤ _; omega
      have HOUT : Hid (∃ R, readP tt.data.toList = .inr R ∧ pgG R = p) := by
       have := rewrite_back HPX.out HOP.out HPD.out HWL2.out HWF.out (by
        rw [← HPS.out, ← HTL.out]
        have := HTS.out
        simpa using this)
       rw [← HPS.out, ← HTL.out] at this
       exact this
      obtain ⟨R, hr1, hr2⟩ := HOUT.out
      have HPA := hid_of (parse_out tt (by have := HTS.out; omega) p R hr1 hr2 w6 (HG.out.same HK6.out))
      clear hr1 hr2 HOUT
      go_wp2_with fail
      refine HPA.out.mono ?_
      rintro e w7 ⟨hk7, ym, yda, ydn, ydc, yfa, yfn, yfc, rfl, hpy⟩
      have hkc : Kept (fun _ => False) w7 (w7.alloc (.cells #[.int .i64 ym, .slice yda ydn ydc, .slice yfa yfn yfc] 25)) := (Kept.refl _ _).alloc _
      have HY := hid_of (heap_alloc_new w7 (.cells #[.int .i64 ym, .slice yda ydn ydc, .slice yfa yfn yfc] 25))
      have HX8 := hid_of (box_kept (hk7.trans hkc) HX6.out id)
      have HK8 := hid_of (HK6.out.trans (hk7.trans hkc))
      have HSM := hid_of (sameG _ _ p _ _ _ (hpy.kept hkc (fun _ _ f => f)) (HP6.out.kept (hk7.trans hkc) (fun _ _ f => f)) HOP.out)
      clear hk7 hkc hpy HPA
      have hn2 := eeNil
      go_upto_region 11 with fail
      generalize w7.alloc (.cells #[.int .i64 ym, .slice yda ydn ydc, .slice yfa yfn yfc] 25) = w8 at *
      generalize w7.heap.size = gy at *
      obtain ⟨z0, z1, z2, _⟩ := look3 HX8.out
      obtain ⟨y0, y1, y2, _⟩ := look3 HY.out
      go_wp2_with fail
      refine HSM.out.mono ?_
      rintro e w9 ⟨rfl, hk9⟩
      have HK9 := hid_of (HK8.out.trans hk9)
      clear hk9 HSM z0 z1 z2 y0 y1 y2
      go_wp2
      go_ret
      exact ⟨rfl, HK9.out⟩
 ·obtain rfl : pe = 2 := HPE.out.trans hx
  rw [hc] at hrc
  have HRK := hid_of hrc
  clear hrc hc hx
  obtain ⟨a0, a1, a2, _⟩ := look3 HX4.out
  go_wp2_with fail
  refine HRK.out.mono ?_
  rintro e w5 ⟨rfl, hk5⟩
  have HK5 := hid_of (HK4.out.trans hk5)
  clear hk5 HRK a0 a1 a2
  go_wp2
  go_ret
  exact ⟨rfl, HK5.out⟩
 ·have e1 : (pe == 0) = false := by rw [HPE.out]; simpa using hx0
  have e2 : (pe != 0) = true := by rw [HPE.out]; simpa using hx0
  have e3 : (checkP p == 0) = false := by simpa using hc
  have e4 : (checkP p != 0) = true := by simpa using hc
  have HRK := hid_of hrc
  clear hrc hc hx hx0 hx2
  generalize checkP p = ck at *
  obtain ⟨a0, a1, a2, _⟩ := look3 HX4.out
  go_wp2_with fail
  refine HRK.out.mono ?_
  rintro e w5 ⟨rfl, hk5⟩
  have HK5 := hid_of (HK4.out.trans hk5)
  clear hk5 HRK a0 a1 a2
  go_wp2
  go_ret
  exact ⟨rfl, HK5.out⟩
end Go.Proofs.YtpfmhibdmehlcaaGreatDoor
namespace Go.Proofs.YtpfmhibdmehlcaaGreatDoor
open Go.ChangeShapes Go.WideShapes Go.ChangeAt Go.WideMaps Go.WideElems Go.RowKit Go.Deep
set_option linter.unusedVariables false
set_option linter.unusedSimpArgs false
set_option maxRecDepth 100000
theorem cells64w : Tryz.prog.cellsOf 64 = 3 := by kernel_rfl
def W3.cells (y : W3) : List Value := [.int .i64 y.a, .int .i64 y.b, .int .i64 y.c]
section
variable {H : Type} {enc : TypeId × Value → H} {W : World} {base : Nat} {spare : Nat → Bool} {held : Bool}
theorem open_way {fuel : Nat} {cs : List Value} {x : DataW H × List MemPlace} (h : DataW.trod enc Tryz.prog W base spare held fuel 64 cs = some x) : ∃ y : W3, cs = W3.cells y ∧ y.Ok := by
 obtain ⟨ys, n, _, _, hl, hlen, hf⟩ := DataW.trod_struct Tryz.underlying64 h
 rw [cells64w] at hl
 match ys, hlen with
 | [y0, y1, y2], _ =>
  have g0 : DataW.trod enc Tryz.prog W base spare held n 3 ((cs.drop 0).take 1) = some y0 := by simpa [cells3'] using hf 0 _ rfl
  have g1 : DataW.trod enc Tryz.prog W base spare held n 3 ((cs.drop 1).take 1) = some y1 := by simpa [cells3'] using hf 1 _ rfl
  have g2 : DataW.trod enc Tryz.prog W base spare held n 3 ((cs.drop 2).take 1) = some y2 := by simpa [cells3'] using hf 2 _ rfl
  obtain ⟨k0, e0, _, w0⟩ := DataW.trod_int Tryz.underlying3 g0
  obtain ⟨k1, e1, _, w1⟩ := DataW.trod_int Tryz.underlying3 g1
  obtain ⟨k2, e2, _, w2⟩ := DataW.trod_int Tryz.underlying3 g2
  have b0 := bounds_i64 w0
  have b1 := bounds_i64 w1
  have b2 := bounds_i64 w2
  refine ⟨⟨k0, k1, k2⟩, ?_, ⟨⟨b0.1, show k0 < 9223372036854775808 by omega⟩, ⟨b1.1, show k1 < 9223372036854775808 by omega⟩, b2.1, show k2 < 9223372036854775808 by omega⟩⟩
  have q : cs = (cs.drop 0).take 1 ++ ((cs.drop 1).take 1 ++ (cs.drop 2).take 1) := by
   apply List.ext_getElem?
   intro i
   simp only [List.getElem?_append, List.length_take, List.length_drop, List.getElem?_take, List.getElem?_drop, hl]
   repeat' split
   all_goals (first | (congr 1; omega) | (rw [List.getElem?_eq_none (by omega)]) | omega)
  rw [e0, e1, e2] at q
  rw [q]
  rfl
end
theorem open_ways {H : Type} {enc : TypeId × Value → H} {W : World} {base : Nat} {v : Value} {d : DataW H} {p : List MemPlace} (hval : Value.okWide Tryz.prog W .any base 37 v) (h : DataW.Trod enc Tryz.prog W 0 (fun _ => true) true 37 v d p) :
  ∃ (ao : Option Addr) (c : Nat) (ys : List W3), v = .slice ao ys.length c ∧ ys.length ≤ 9223372036854775807 ∧ (∀ y ∈ ys, y.Ok) ∧ ∀ q y, ys[q]? = some y → ∃ g o, ao = some ⟨g, o, none⟩ ∧ W.cell? ⟨g, o + q * 3, none⟩ = some (.int .i64 y.a) ∧ W.cell? ⟨g, o + q * 3 + 1, none⟩ = some (.int .i64 y.b) ∧ W.cell? ⟨g, o + q * 3 + 2, none⟩ = some (.int .i64 y.c) := by
 obtain ⟨a1, len1, cap1, rfl⟩ := okWide_slice Tryz.underlying37 hval
 obtain ⟨fuel, hf⟩ := h
 rcases Go.Deep.open_slice Tryz.underlying37 hf with ⟨h0, _⟩ | ⟨a, len, cap, m, n, D, Pl, hcs, hb, hl, hm, hm', _, hel⟩
 ·simp [Value.cells] at h0
  obtain ⟨rfl, rfl, rfl⟩ := h0
  exact ⟨none, 0, [], rfl, by decide, fun s hs => absurd hs List.not_mem_nil, fun i s h => by cases h⟩
 ·simp [Value.cells] at hcs
  obtain ⟨rfl, rfl, rfl⟩ := hcs
  by_cases h0 : len1 = 0
  ·subst h0
   exact ⟨_, _, [], rfl, by decide, fun s hs => absurd hs List.not_mem_nil, fun i s h => by cases h⟩
  ·have hlm : len1 ≤ m := by rw [hm']; split <;> omega
   rw [cells64w] at hel
   have hin : Inhabited W3 := ⟨⟨0, 0, 0⟩⟩
   obtain ⟨f, hf⟩ := Go.Deep.choose_lt (n := len1) (p := fun i (y : W3) => W.cells? 0 (a.add (i * 3)) 3 = some (W3.cells y) ∧ y.Ok) (fun i hi => by
    obtain ⟨cs', h1, h2⟩ := hel i (by omega)
    obtain ⟨y, rfl, h3⟩ := open_way h2
    exact ⟨y, h1, h3⟩)
   have hcell : ∀ i, i < len1 → ∀ j, j < 3 → W.cell? ((a.add (i * 3)).add j) = (W3.cells (f i))[j]? := fun i hi => (World.cells?_some (hf i hi).1).2.2
   obtain ⟨b, off, spot⟩ := a
   have hc0 : W.cell? (((⟨b, off, spot⟩ : Addr).add (0 * 3)).add 0) = some (.int .i64 (f 0).a) := hcell 0 (by omega) 0 (by omega)
   have hspot : spot = none := by simpa [Addr.add] using World.cell?_spot hc0
   subst hspot
   refine ⟨some ⟨b, off, none⟩, cap1, (List.range len1).map f, by simp, by simp; unfold maxLen at hm; omega, fun y hy => ?_, fun i y hy => ?_⟩
   ·obtain ⟨i, hi, rfl⟩ := List.mem_map.1 hy
    exact (hf i (List.mem_range.1 hi)).2
   ·have hi : i < len1 := by
     have := (List.getElem?_eq_some_iff.1 hy).1
     simpa using this
    obtain rfl : f i = y := by simpa [hi] using hy
    refine ⟨b, off, rfl, ?_, ?_, ?_⟩
    ·have := hcell i hi 0 (by omega)
     rw [Addr.add_lit, Addr.add_lit, Nat.add_zero] at this
     rw [this]
     rfl
    ·have := hcell i hi 1 (by omega)
     rw [Addr.add_lit, Addr.add_lit] at this
     rw [this]
     rfl
    ·have := hcell i hi 2 (by omega)
     rw [Addr.add_lit, Addr.add_lit] at this
     rw [this]
     rfl
end Go.Proofs.YtpfmhibdmehlcaaGreatDoor

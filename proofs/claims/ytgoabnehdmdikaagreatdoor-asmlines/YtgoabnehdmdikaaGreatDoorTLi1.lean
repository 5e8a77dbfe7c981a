import Derived.Test.YtgoabnehdmdikaaGreatDoorTPa1
import Derived.Test.YtgoabnehdmdikaaGreatDoorTPa10
import Derived.Test.YtgoabnehdmdikaaGreatDoorTPa11
import Derived.Test.YtgoabnehdmdikaaGreatDoorTPa12
import Derived.Test.YtgoabnehdmdikaaGreatDoorTPa13
import Derived.Test.YtgoabnehdmdikaaGreatDoorTPa14
import Derived.Test.YtgoabnehdmdikaaGreatDoorTPa15
import Derived.Test.YtgoabnehdmdikaaGreatDoorTPa16
import Derived.Test.YtgoabnehdmdikaaGreatDoorTPa17
import Derived.Test.YtgoabnehdmdikaaGreatDoorTPa18
import Derived.Test.YtgoabnehdmdikaaGreatDoorTPa19
import Derived.Test.YtgoabnehdmdikaaGreatDoorTPa2
import Derived.Test.YtgoabnehdmdikaaGreatDoorTPa20
import Derived.Test.YtgoabnehdmdikaaGreatDoorTPa21
import Derived.Test.YtgoabnehdmdikaaGreatDoorTPa22
import Derived.Test.YtgoabnehdmdikaaGreatDoorTPa23
import Derived.Test.YtgoabnehdmdikaaGreatDoorTPa24
import Derived.Test.YtgoabnehdmdikaaGreatDoorTPa25
import Derived.Test.YtgoabnehdmdikaaGreatDoorTPa26
import Derived.Test.YtgoabnehdmdikaaGreatDoorTPa27
import Derived.Test.YtgoabnehdmdikaaGreatDoorTPa28
import Derived.Test.YtgoabnehdmdikaaGreatDoorTPa29
import Derived.Test.YtgoabnehdmdikaaGreatDoorTPa3
import Derived.Test.YtgoabnehdmdikaaGreatDoorTPa30
import Derived.Test.YtgoabnehdmdikaaGreatDoorTPa31
import Derived.Test.YtgoabnehdmdikaaGreatDoorTPa32
import Derived.Test.YtgoabnehdmdikaaGreatDoorTPa33
import Derived.Test.YtgoabnehdmdikaaGreatDoorTPa34
import Derived.Test.YtgoabnehdmdikaaGreatDoorTPa35
import Derived.Test.YtgoabnehdmdikaaGreatDoorTPa36
import Derived.Test.YtgoabnehdmdikaaGreatDoorTPa37
import Derived.Test.YtgoabnehdmdikaaGreatDoorTPa4
import Derived.Test.YtgoabnehdmdikaaGreatDoorTPa5
import Derived.Test.YtgoabnehdmdikaaGreatDoorTPa6
import Derived.Test.YtgoabnehdmdikaaGreatDoorTPa7
import Derived.Test.YtgoabnehdmdikaaGreatDoorTPa8
import Derived.Test.YtgoabnehdmdikaaGreatDoorTPa9
import Derived.Test.YtgoabnehdmdikaaGreatDoorProg
import Derived.WalkKit
import Derived.ProofKit
import Derived.Maps.AppendAt
import Derived.Deep.RegionHeld3
import Derived.Lib.SliceRun
import Derived.Laws.BitsAllLaws
import Derived.Lib.AppendStr
import Derived.Deep.QuietTactic
import Derived.BigQuiet
import Derived.WalkSmall
import Derived.Laws.CopyRow
import Derived.Laws.IdiomCopy
import Derived.Laws.Tables
import Derived.Laws.Rows
import Derived.Laws.ResultCell
import Derived.Deep.MidRow
import Derived.Deep.DeepCutAuto
import Derived.Deep.CutBlock
import Derived.Laws.BytesString
import Derived.Deep.AppendSrc
import Derived.Deep.Strs
import Derived.OpenShut
import Derived.ChangeOld
import Derived.Defers
import Derived.Recover
import Derived.Laws.Bits64
import Derived.LaidEqlPtr
import Derived.Deep.RegionLaw
import Derived.Laws.IdiomStrings
import Derived.Lib.SmallJoins
import Derived.Great.BuildSlice
import Derived.Laws.StructEq
import Derived.Laws.OwnMore
import Derived.Shelf.Lay
import Derived.Shelf.LaysM
import Derived.Shelf.LaysC
import Derived.Shelf.Small.Wraps
import Derived.Shelf.Strconv.Itoa3
import Derived.Shelf.Strconv.ParseIntPublic10
import Derived.Shelf.Strconv.AppendIntPublic10
import Derived.Shelf.Strings.Prefix
import Derived.Shelf.Strings.Split
import Derived.Shelf.Strings.AsciiSet
import Derived.MapKept
import Derived.Lib.OthersKept
import Derived.Lib.SlBytesConst
import Derived.Shelf.Lays
import Derived.Shelf.Strings.Runes
import Derived.Shelf.Small.Utf8
import Derived.WalkMore
import Derived.Laws.RangeAny
import Derived.Deep.LoopGhost
import Derived.Lib.ConvBytes
import Derived.Laws.Closers25
import Derived.Laws.Closers25b
import Derived.Lib.Hide
import Derived.LaidEql
import Derived.Stop.Asserts
import Derived.RowKitTokens
import Derived.Shelf.Strconv.ToError
import Derived.Shelf.Strconv.ToErrorRange
import Derived.Shelf.Strings.SlTrimAscii
import Derived.Lib.ParseIntB
import Derived.Lib.ItoaLen
import Derived.ChangeSlices
import Derived.SizedLaws
namespace Go.Proofs.YtgoabnehdmdikaaGreatDoor
open Go.RowKit
set_option linter.unusedVariables false
set_option linter.unusedSimpArgs false
set_option maxRecDepth 100000
theorem nl_size : (⟨#[10]⟩ : ByteArray).size = 1 := rfl
set_option maxHeartbeats 8000000 in
theorem lines_walk (ao : Option Addr) (c : Nat) (ss : List ByteArray) (w : World) (hG : Gs w) (hn : ss.length ≤ 9223372036854775807) (hs : ∀ s ∈ ss, s.size ≤ 9223372036854775807)
  (hc : ∀ i s, ss[i]? = some s → ∃ g o, ao = some ⟨g, o, none⟩ ∧ w.cell? ⟨g, o + i, none⟩ = some (.string s)) : Calls Tryz.prog 4 #[.slice ao ss.length c] w fun e w' => e = .returned (.bool true) ∧ Kept (fun _ => False) w w' := by
 obtain ⟨n, hnn⟩ : ∃ n, n = ss.length := ⟨_, rfl⟩
 rw [← hnn] at hn ⊢
 have HPW := hid_of (fun (D : ByteArray) (hD : D.size ≤ 9223372036854775807) => parses_walk D hD w hG)
 have HNN := hid_of hnn
 have HSB := hid_of hs
 have HC := hid_of hc
 clear hG hs hc hnn
 go_enter Tryz.func4, Tryz.ntmps4
 go_wp2_with fail
 go_loopw [3, 4] (fun tv iv wr => ∃ (i : Nat) (D : ByteArray), tv = .string D ∧ iv = .int .i64 (i : Int) ∧ Hid (i ≤ n) ∧ Hid (D.size ≤ 2000000) ∧ wr = w) (fun _ iv _ => n - (intOf iv).toNat)
 case atStart => exact ⟨0, _, rfl, rfl, Nat.zero_le _, by show _ ≤ _; decide, rfl⟩
 case round =>
  obtain ⟨i, D, rfl, rfl, HI, HDS, rfl⟩ := hrel
  by_cases hlt : i < n
  ·have hltI : (i : Int) < (n : Int) := by omega
   have hnI : (n : Int) ≤ 9223372036854775807 := by omega
   have hli : i < ss.length := by rw [← HNN.out]; exact hlt
   obtain ⟨s, hsi⟩ : ∃ s, ss[i]? = some s := ⟨_, List.getElem?_eq_getElem hli⟩
   obtain ⟨g, o, e1, hcell⟩ := HC.out i s hsi
   have hsz := HSB.out s (List.mem_of_getElem? hsi)
   have hdz := HDS.out
   subst e1
   by_cases hd : D.size ≤ 65536
   ·have hdI : (D.size : Int) ≤ 65536 := by omega
    by_cases hs1 : s.size ≤ 1048576
    ·have hs1I : (s.size : Int) ≤ 1048576 := by omega
     by_cases h0 : 0 < i
     ·have h0I : (0 : Int) < (i : Int) := by omega
      have h1 : ¬ 9223372036854775807 < D.size + 1 := by omega
      have h2 : ¬ 9223372036854775807 < D.size + 1 + s.size := by omega
      clear hsi hli hsz hdz
      go_wp2
      go_roundw
      case rel => exact ⟨i + 1, _, rfl, by go_num, by show _ ≤ _; omega, by show _ ≤ _; have := nl_size; simp only [ByteArray.size_append]; omega, trivial⟩
      case measure => simp [intOf]; omega
     ·obtain rfl : i = 0 := by omega
      have h2 : ¬ 9223372036854775807 < D.size + s.size := by omega
      simp only [Nat.add_zero] at hcell
      clear hsi hli hsz hdz
      go_wp2
      go_roundw
      case rel => exact ⟨1, _, rfl, by go_num, by show _ ≤ _; omega, by show _ ≤ _; have := nl_size; simp only [ByteArray.size_append]; omega, trivial⟩
      case measure => simp [intOf]; omega
    ·have hs1I : ¬ (s.size : Int) ≤ 1048576 := by omega
     clear hsi hli hsz hdz
     go_wp2_with fail
     refine (HPW.out D (by have := HDS.out; omega)).mono ?_
     rintro e w9 ⟨rfl, hk9⟩
     have HK9 := hid_of hk9
     clear hk9
     go_wp2
     go_ret
     exact ⟨rfl, HK9.out⟩
   ·have hdI : ¬ (D.size : Int) ≤ 65536 := by omega
    clear hsi hli hsz hdz
    go_wp2_with fail
    refine (HPW.out D (by have := HDS.out; omega)).mono ?_
    rintro e w9 ⟨rfl, hk9⟩
    have HK9 := hid_of hk9
    clear hk9
    go_wp2
    go_ret
    exact ⟨rfl, HK9.out⟩
  ·have hltI : ¬ (i : Int) < (n : Int) := by omega
   go_wp2_with fail
   refine (HPW.out D (by have := HDS.out; omega)).mono ?_
   rintro e w9 ⟨rfl, hk9⟩
   have HK9 := hid_of hk9
   clear hk9
   go_wp2
   go_ret
   exact ⟨rfl, HK9.out⟩
end Go.Proofs.YtgoabnehdmdikaaGreatDoor
namespace Go.Proofs.YtgoabnehdmdikaaGreatDoor
open Go.ChangeShapes Go.WideShapes Go.ChangeAt Go.WideMaps Go.WideElems Go.RowKit Go.Deep
set_option linter.unusedVariables false
set_option linter.unusedSimpArgs false
set_option maxRecDepth 100000
theorem laidOut : laidOutB Tryz.prog = true := by kernel_rfl
section
variable {H : Type} {enc : TypeId × Value → H} {W : World} {base : Nat} {spare : Nat → Bool} {held : Bool}
end
section
variable {H : Type} {enc : TypeId × Value → H} {W : World}
end
end Go.Proofs.YtgoabnehdmdikaaGreatDoor

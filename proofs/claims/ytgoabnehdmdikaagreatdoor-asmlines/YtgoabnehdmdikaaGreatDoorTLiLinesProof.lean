import Derived.Test.YtgoabnehdmdikaaGreatDoorTPa1
import Derived.Test.YtgoabnehdmdikaaGreatDoorTPa10
import Derived.Test.YtgoabnehdmdikaaGreatDoorTPa11
import Derived.Test.YtgoabnehdmdikaaGreatDoorTPa12
import Derived.Test.YtgoabnehdmdikaaGreatDoorTPa13
import Derived.Test.YtgoabnehdmdikaaGreatDoorTPa14
import Derived.Test.YtgoabnehdmdikaaGreatDoorTPa15
import Derived.Test.YtgoabnehdmdikaaGreatDoorTPa16
import Derived.Test.YtgoabnehdmdikaaGreatDoorTPa17
import Derived.Test.YtgoabnehdmdikaaGreatDoorTPa18
import Derived.Test.YtgoabnehdmdikaaGreatDoorTPa19
import Derived.Test.YtgoabnehdmdikaaGreatDoorTPa2
import Derived.Test.YtgoabnehdmdikaaGreatDoorTPa20
import Derived.Test.YtgoabnehdmdikaaGreatDoorTPa21
import Derived.Test.YtgoabnehdmdikaaGreatDoorTPa22
import Derived.Test.YtgoabnehdmdikaaGreatDoorTPa23
import Derived.Test.YtgoabnehdmdikaaGreatDoorTPa24
import Derived.Test.YtgoabnehdmdikaaGreatDoorTPa25
import Derived.Test.YtgoabnehdmdikaaGreatDoorTPa26
import Derived.Test.YtgoabnehdmdikaaGreatDoorTPa27
import Derived.Test.YtgoabnehdmdikaaGreatDoorTPa28
import Derived.Test.YtgoabnehdmdikaaGreatDoorTPa29
import Derived.Test.YtgoabnehdmdikaaGreatDoorTPa3
import Derived.Test.YtgoabnehdmdikaaGreatDoorTPa30
import Derived.Test.YtgoabnehdmdikaaGreatDoorTPa31
import Derived.Test.YtgoabnehdmdikaaGreatDoorTPa32
import Derived.Test.YtgoabnehdmdikaaGreatDoorTPa33
import Derived.Test.YtgoabnehdmdikaaGreatDoorTPa34
import Derived.Test.YtgoabnehdmdikaaGreatDoorTPa35
import Derived.Test.YtgoabnehdmdikaaGreatDoorTPa36
import Derived.Test.YtgoabnehdmdikaaGreatDoorTPa37
import Derived.Test.YtgoabnehdmdikaaGreatDoorTPa4
import Derived.Test.YtgoabnehdmdikaaGreatDoorTPa5
import Derived.Test.YtgoabnehdmdikaaGreatDoorTPa6
import Derived.Test.YtgoabnehdmdikaaGreatDoorTPa7
import Derived.Test.YtgoabnehdmdikaaGreatDoorTPa8
import Derived.Test.YtgoabnehdmdikaaGreatDoorTPa9
import Derived.Test.YtgoabnehdmdikaaGreatDoorTLi1
import Derived.Test.YtgoabnehdmdikaaGreatDoorProg
import Derived.WalkKit
import Derived.ProofKit
import Derived.Maps.AppendAt
import Derived.Deep.RegionHeld3
import Derived.Lib.SliceRun
import Derived.Laws.BitsAllLaws
import Derived.Lib.AppendStr
import Derived.Deep.QuietTactic
import Derived.BigQuiet
import Derived.WalkSmall
import Derived.Laws.CopyRow
import Derived.Laws.IdiomCopy
import Derived.Laws.Tables
import Derived.Laws.Rows
import Derived.Laws.ResultCell
import Derived.Deep.MidRow
import Derived.Deep.DeepCutAuto
import Derived.Deep.CutBlock
import Derived.Laws.BytesString
import Derived.Deep.AppendSrc
import Derived.Deep.Strs
import Derived.OpenShut
import Derived.ChangeOld
import Derived.Defers
import Derived.Recover
import Derived.Laws.Bits64
import Derived.LaidEqlPtr
import Derived.Deep.RegionLaw
import Derived.Laws.IdiomStrings
import Derived.Lib.SmallJoins
import Derived.Great.BuildSlice
import Derived.Laws.StructEq
import Derived.Laws.OwnMore
import Derived.Shelf.Lay
import Derived.Shelf.LaysM
import Derived.Shelf.LaysC
import Derived.Shelf.Small.Wraps
import Derived.Shelf.Strconv.Itoa3
import Derived.Shelf.Strconv.ParseIntPublic10
import Derived.Shelf.Strconv.AppendIntPublic10
import Derived.Shelf.Strings.Prefix
import Derived.Shelf.Strings.Split
import Derived.Shelf.Strings.AsciiSet
import Derived.Test.YtgoabnehdmdikaaGreatDoorRows
import Derived.LaidMore
import Derived.Lay
import Derived.Stop.Joined
import Derived.Stop.LaidErr
import Derived.HandedShaped
import Derived.Shelf.Vars
import Derived.MapKept
import Derived.Lib.OthersKept
import Derived.Lib.SlBytesConst
import Derived.Shelf.Lays
import Derived.Shelf.Strings.Runes
import Derived.Shelf.Small.Utf8
import Derived.WalkMore
import Derived.Laws.RangeAny
import Derived.Deep.LoopGhost
import Derived.Lib.ConvBytes
import Derived.Laws.Closers25
import Derived.Laws.Closers25b
import Derived.Lib.Hide
import Derived.LaidEql
import Derived.Stop.Asserts
import Derived.RowKitTokens
import Derived.Shelf.Strconv.ToError
import Derived.Shelf.Strconv.ToErrorRange
import Derived.Stop.LaidTwo
import Derived.Test.YtgoabnehdmdikaaGreatDoorTie
import Derived.Test.YtgoabnehdmdikaaGreatDoorCards
import Derived.SevenTiedAt
import Derived.SizedLaws
import Derived.ChangeMaps5
import Derived.SliceStrings
namespace Go.Proofs.YtgoabnehdmdikaaGreatDoor
namespace asmLines
open Go.ChangeShapes Go.WideShapes Go.ChangeAt Go.WideMaps Go.WideElems Go.RowKit Go.ChangeMaps
set_option linter.unusedVariables false
set_option linter.unusedSimpArgs false
set_option maxRecDepth 100000
theorem open_lines {H : Type} {enc : TypeId × Value → H} {W : World} {base : Nat} {v : Value} {d : DataW H} {p : List MemPlace} (hval : Value.okWide Tryz.prog W .any base 37 v) (h : DataW.Trod enc Tryz.prog W 0 (fun _ => true) true 37 v d p) :
  ∃ (ao : Option Addr) (c : Nat) (ss : List ByteArray), v = .slice ao ss.length c ∧ ss.length ≤ 9223372036854775807 ∧ (∀ s ∈ ss, s.size ≤ 9223372036854775807) ∧ ∀ i s, ss[i]? = some s → ∃ g o, ao = some ⟨g, o, none⟩ ∧ W.cell? ⟨g, o + i, none⟩ = some (.string s) := by
 obtain ⟨a1, len1, cap1, rfl⟩ := okWide_slice Tryz.underlying37 hval
 obtain ⟨fuel, hf⟩ := h
 rcases open_strings Tryz.underlying37 Tryz.underlying9 (by kernel_rfl) hf with ⟨h0, _⟩ | ⟨a, len, cap, ss, hcs, _, hl, hm, hlen, _, hcell, hsz⟩
 ·simp [Value.cells] at h0
  obtain ⟨rfl, rfl, rfl⟩ := h0
  exact ⟨none, 0, [], rfl, by decide, fun s hs => absurd hs List.not_mem_nil, fun i s h => by cases h⟩
 ·simp [Value.cells] at hcs
  obtain ⟨rfl, rfl, rfl⟩ := hcs
  simp only [if_true] at hlen
  refine ⟨some a, cap1, ss.take len1, by rw [List.length_take]; congr 1; omega, ?_, fun s hs => ?_, fun i s hi => ?_⟩
  ·rw [List.length_take]
   unfold maxLen at hm
   omega
  ·have := hsz s (List.mem_of_mem_take hs)
   unfold maxLen at this
   omega
  ·have hi2 : i < len1 := by
    have := (List.getElem?_eq_some_iff.1 hi).1
    rw [List.length_take] at this
    omega
   rw [List.getElem?_take_of_lt hi2] at hi
   have hil := (List.getElem?_eq_some_iff.1 hi).1
   have hc := hcell i hil
   rw [List.getD, hi] at hc
   have h0 := hcell 0 (by omega)
   obtain ⟨b, off, spot⟩ := a
   have hs0 : spot = none := by simpa [Addr.add] using World.cell?_spot h0
   subst hs0
   refine ⟨b, off, rfl, ?_⟩
   rw [Addr.add_mid] at hc
   exact hc
theorem lifted (os : Os) (started : os.Started) (H : Type) (enc : TypeId × Value → H) :
  ReturnsInHanded {} Tryz.checked os 4 .any (fun w args => (Rows.asmLinesSpec.pre enc Tryz.prog Tryz.f4 [] false w args ∧ laidMetH Tryz.prog laidT w) ∧ sizedMet enc Tryz.prog Tryz.f4 (OpenSpec.ofChange Rows.asmLinesSpec) false w args)
   (Rows.asmLinesSpec.post enc Tryz.prog Tryz.f4 false true false false) := by
 refine handed_and_shaped (C := Tryz.checked) (X := fun w _ => laidMetH Tryz.prog laidT w) (fun _ _ _ hh h => h.of_heap hh) own started (by kernel_rfl) Tryz.func4
  (ChangeSpec.witness_shaped (enc := enc) (C := Tryz.checked) (os := os) (X := fun w _ => laidMetH Tryz.prog laidT w) false (World.laidAll Tryz.prog os laidT) #[.slice none 0 0] 8 (World.laidAll_os _ _ _)
   (World.shaped_of_ZipB (by kernel_rfl) (by kernel_rfl)) (by kernel_rfl) (by kernel_rfl) (by kernel_rfl) (laid_met os _)) ?_
 intro W base args ds gs before hval0 hW hsz0 hL hsh
 have hsz : (DataW.weightsEach Tryz.prog (Tryz.f4.params.toList ++ Rows.asmLinesSpec.plain.varTypes Tryz.prog) (ds ++ gs)).all (· ≤ reachBytes) = true := hsz0
 clear hsz0
 have hval : ∀ (j : Nat) t v, Tryz.f4.params[j]? = some t → args[j]? = some v → Value.okWide Tryz.prog W .any base t v := hval0
 have hW' := hW
 obtain ⟨p, q, hA0, hV, rfl, hfz, hnd⟩ := hW
 have hA : DataW.TrodAll enc Tryz.prog W 0 (fun _ => true) true Tryz.f4.params.toList args.toList ds p := hA0
 rw [Tryz.params4] at hA hval hsz
 obtain ⟨v0, vs0, d0, ds0, p0, q0, hargs0, rfl, rfl, h0, r0⟩ := trodAll_cons hA
 obtain ⟨rfl, rfl, rfl⟩ := trodAll_nil r0
 obtain rfl : args = #[v0] := by cases args; simp_all
 obtain ⟨rfl, rfl⟩ := trodVars_none hV
 have k0 := h0
 have lt0 : ∀ x ∈ p0, x.block < W.heap.size := by obtain ⟨m, hm⟩ := k0; exact DataW.trod_lt m _ _ _ hm
 obtain ⟨ao0, c0, ss0, rfl, hn0, hs0, hc0⟩ := open_lines (hval 0 37 v0 rfl rfl) h0
 clear hA0 hval0
 simp only [List.append_nil] at hW'
 refine (lines_walk ao0 c0 ss0 W (gs_of hL hsh) hn0 hs0 hc0).mono fun e W' ⟨he, hk⟩ => ?_
 have bel : Below W.heap.size W W' := hk.below (Nat.le_refl _) (fun _ f => f.elim)
 subst he
 exact ⟨_, rfl, _, _, _, [], _, [], hW', trodAll_mk1 (shut_bool Tryz.underlying4 _), (trodAll_cons_mk (Below.trod laidOut (by kernel_rfl) (of_decide_eq_true (by kernel_rfl)) k0 bel lt0) trodAll_mk0), rfl, bel.frame _, fun h => by cases h⟩
theorem over : Rows.AsmLinesSaid :=
 OpenClaim.holds_of_wide 4 Tryz.f4 rfl rfl rfl rfl rfl rfl rfl ⟨rfl, rfl, rfl, rfl, rfl⟩ rfl rfl rfl rfl rfl (by kernel_rfl) Tryz.func4 (by kernel_rfl)
  (of_decide_eq_true (by kernel_rfl)) (by unfold Func.isWrapper; first | (rw [if_pos (by decide +kernel)]; kernel_rfl) | (rw [if_neg (by decide +kernel)]; exact ⟨rfl, rfl⟩))
  (fun os started H enc _ => lifted os started H enc)
set_option maxHeartbeats 2000000 in
theorem card : Rows.AsmLinesCardSaid :=
 Claim7.holds_tied_plain_at .later [] [.data, .data, .data, .data, .sentinel, .sentinel, .pinned] true (true, "f2cac757e3a2cd1899fc95bff57111b4d51854261bd8e824e35f7c9fe9f0a7c9") true
  (over) (fun _ h => by cases h) (by kernel_rfl) (fun _ h => by cases h) asmLines_row_tie rfl ⟨rfl, rfl⟩ (by kernel_rfl) rfl
  (fun f fn hf hfn => by
   obtain rfl : f = 4 := Option.some.inj ((show Tryz.prog.funcNamed "retort/retortlaw14.AsmLines" = some 4 by kernel_rfl).symm.trans hf) |>.symm
   obtain rfl : fn = Tryz.f4 := (Option.some.inj (Tryz.func4.symm.trans hfn)).symm
   exact ⟨by kernel_rfl, fun j t ht => by
    rw [Tryz.params4] at ht
    have hm : t ∈ [37] := by simpa using Array.mem_of_getElem? ht
    have hall : ([37].all fun u => !Tryz.prog.wantsStandIn u) = true := by kernel_rfl
    exact (show Tryz.prog.wantsStandIn t = false by simpa using List.all_eq_true.1 hall t hm)⟩)
  (by kernel_rfl)
end asmLines
theorem asmLines_holds : Rows.AsmLinesCardSaid := asmLines.card
#print axioms asmLines_holds
end Go.Proofs.YtgoabnehdmdikaaGreatDoor

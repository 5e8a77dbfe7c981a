import Derived.Test.YtpfmhibdmehlcaaGreatDoorTBa1
import Derived.Test.YtpfmhibdmehlcaaGreatDoorTBa10
import Derived.Test.YtpfmhibdmehlcaaGreatDoorTBa11
import Derived.Test.YtpfmhibdmehlcaaGreatDoorTBa12
import Derived.Test.YtpfmhibdmehlcaaGreatDoorTBa13
import Derived.Test.YtpfmhibdmehlcaaGreatDoorTBa14
import Derived.Test.YtpfmhibdmehlcaaGreatDoorTBa15
import Derived.Test.YtpfmhibdmehlcaaGreatDoorTBa16
import Derived.Test.YtpfmhibdmehlcaaGreatDoorTBa17
import Derived.Test.YtpfmhibdmehlcaaGreatDoorTBa18
import Derived.Test.YtpfmhibdmehlcaaGreatDoorTBa19
import Derived.Test.YtpfmhibdmehlcaaGreatDoorTBa2
import Derived.Test.YtpfmhibdmehlcaaGreatDoorTBa20
import Derived.Test.YtpfmhibdmehlcaaGreatDoorTBa21
import Derived.Test.YtpfmhibdmehlcaaGreatDoorTBa22
import Derived.Test.YtpfmhibdmehlcaaGreatDoorTBa23
import Derived.Test.YtpfmhibdmehlcaaGreatDoorTBa24
import Derived.Test.YtpfmhibdmehlcaaGreatDoorTBa25
import Derived.Test.YtpfmhibdmehlcaaGreatDoorTBa26
import Derived.Test.YtpfmhibdmehlcaaGreatDoorTBa27
import Derived.Test.YtpfmhibdmehlcaaGreatDoorTBa28
import Derived.Test.YtpfmhibdmehlcaaGreatDoorTBa29
import Derived.Test.YtpfmhibdmehlcaaGreatDoorTBa3
import Derived.Test.YtpfmhibdmehlcaaGreatDoorTBa30
import Derived.Test.YtpfmhibdmehlcaaGreatDoorTBa31
import Derived.Test.YtpfmhibdmehlcaaGreatDoorTBa32
import Derived.Test.YtpfmhibdmehlcaaGreatDoorTBa33
import Derived.Test.YtpfmhibdmehlcaaGreatDoorTBa34
import Derived.Test.YtpfmhibdmehlcaaGreatDoorTBa35
import Derived.Test.YtpfmhibdmehlcaaGreatDoorTBa36
import Derived.Test.YtpfmhibdmehlcaaGreatDoorTBa37
import Derived.Test.YtpfmhibdmehlcaaGreatDoorTBa38
import Derived.Test.YtpfmhibdmehlcaaGreatDoorTBa39
import Derived.Test.YtpfmhibdmehlcaaGreatDoorTBa4
import Derived.Test.YtpfmhibdmehlcaaGreatDoorTBa40
import Derived.Test.YtpfmhibdmehlcaaGreatDoorTBa41
import Derived.Test.YtpfmhibdmehlcaaGreatDoorTBa42
import Derived.Test.YtpfmhibdmehlcaaGreatDoorTBa43
import Derived.Test.YtpfmhibdmehlcaaGreatDoorTBa44
import Derived.Test.YtpfmhibdmehlcaaGreatDoorTBa45
import Derived.Test.YtpfmhibdmehlcaaGreatDoorTBa46
import Derived.Test.YtpfmhibdmehlcaaGreatDoorTBa47
import Derived.Test.YtpfmhibdmehlcaaGreatDoorTBa48
import Derived.Test.YtpfmhibdmehlcaaGreatDoorTBa49
import Derived.Test.YtpfmhibdmehlcaaGreatDoorTBa5
import Derived.Test.YtpfmhibdmehlcaaGreatDoorTBa50
import Derived.Test.YtpfmhibdmehlcaaGreatDoorTBa51
import Derived.Test.YtpfmhibdmehlcaaGreatDoorTBa6
import Derived.Test.YtpfmhibdmehlcaaGreatDoorTBa7
import Derived.Test.YtpfmhibdmehlcaaGreatDoorTBa8
import Derived.Test.YtpfmhibdmehlcaaGreatDoorTBa9
import Derived.Test.YtpfmhibdmehlcaaGreatDoorTRe1
import Derived.Test.YtpfmhibdmehlcaaGreatDoorProg
import Derived.WalkKit
import Derived.ProofKit
import Derived.Maps.AppendAt
import Derived.Deep.RegionHeld3
import Derived.Lib.SliceRun
import Derived.Laws.BitsAllLaws
import Derived.Lib.AppendStr
import Derived.Deep.QuietTactic
import Derived.BigQuiet
import Derived.WalkSmall
import Derived.Laws.CopyRow
import Derived.Laws.IdiomCopy
import Derived.Laws.Tables
import Derived.Laws.Rows
import Derived.Laws.ResultCell
import Derived.Deep.MidRow
import Derived.Deep.DeepCutAuto
import Derived.Deep.CutBlock
import Derived.Laws.BytesString
import Derived.Deep.AppendSrc
import Derived.Deep.Strs
import Derived.OpenShut
import Derived.ChangeOld
import Derived.Defers
import Derived.Recover
import Derived.Laws.Bits64
import Derived.LaidEqlPtr
import Derived.Deep.RegionLaw
import Derived.Laws.IdiomStrings
import Derived.Lib.SmallJoins
import Derived.Great.BuildSlice
import Derived.Laws.StructEq
import Derived.Laws.OwnMore
import Derived.Shelf.Lay
import Derived.Shelf.LaysM
import Derived.Shelf.LaysC
import Derived.Shelf.Small.Wraps
import Derived.Shelf.Strconv.Itoa3
import Derived.Shelf.Strconv.ParseIntPublic10
import Derived.Shelf.Strconv.AppendIntPublic10
import Derived.Shelf.Strings.Prefix
import Derived.Shelf.Strings.Split
import Derived.Shelf.Strings.AsciiSet
import Derived.Test.YtpfmhibdmehlcaaGreatDoorRows
import Derived.LaidMore
import Derived.Lay
import Derived.Stop.Joined
import Derived.Stop.LaidErr
import Derived.HandedShaped
import Derived.Shelf.Vars
import Derived.MapKept
import Derived.Lib.OthersKept
import Derived.Lib.SlBytesConst
import Derived.Shelf.Lays
import Derived.Shelf.Strings.Runes
import Derived.Shelf.Small.Utf8
import Derived.WalkMore
import Derived.Laws.RangeAny
import Derived.Deep.LoopGhost
import Derived.Lib.ConvBytes
import Derived.Laws.Closers25
import Derived.Laws.Closers25b
import Derived.Lib.Hide
import Derived.LaidEql
import Derived.Stop.Asserts
import Derived.RowKitTokens
import Derived.Shelf.Strconv.ToError
import Derived.Shelf.Strconv.ToErrorRange
import Derived.Stop.LaidTwo
import Derived.ChangeSlices
import Derived.SizedLaws
import Derived.Test.YtpfmhibdmehlcaaGreatDoorTie
import Derived.Test.YtpfmhibdmehlcaaGreatDoorCards
import Derived.SevenTiedAt
import Derived.ChangeMaps5
namespace Go.Proofs.YtpfmhibdmehlcaaGreatDoor
namespace asmRewrites
open Go.ChangeShapes Go.WideShapes Go.ChangeAt Go.WideMaps Go.WideElems Go.RowKit Go.ChangeMaps
set_option linter.unusedVariables false
set_option linter.unusedSimpArgs false
set_option maxRecDepth 100000
theorem str_fits {H : Type} {s : ByteArray} (h : Fits (H := H) 9 (.lit (.string s.data.toList))) : s.size ≤ 140737488351232 := by
 have := h s.data.toList.length (by simp [DataW.weights])
 rw [Lib.size_eq]
 unfold reachBytes at this
 omega
theorem lifted (os : Os) (started : os.Started) (H : Type) (enc : TypeId × Value → H) :
  ReturnsInHanded {} Tryz.checked os 4 .any (fun w args => (Rows.asmRewritesSpec.pre enc Tryz.prog Tryz.f4 [] false w args ∧ laidMetH Tryz.prog laidT w) ∧ sizedMet enc Tryz.prog Tryz.f4 (OpenSpec.ofChange Rows.asmRewritesSpec) false w args)
   (Rows.asmRewritesSpec.post enc Tryz.prog Tryz.f4 false true false false) := by
 refine handed_and_shaped (C := Tryz.checked) (X := fun w _ => laidMetH Tryz.prog laidT w) (fun _ _ _ hh h => h.of_heap hh) own started (by kernel_rfl) Tryz.func4
  (ChangeSpec.witness_shaped (enc := enc) (C := Tryz.checked) (os := os) (X := fun w _ => laidMetH Tryz.prog laidT w) false (World.laidAll Tryz.prog os laidT) #[.agg #[.int .i64 0, .slice none 0 0, .slice none 0 0], .slice none 0 0, .string ⟨#[]⟩] 8 (World.laidAll_os _ _ _)
   (World.shaped_of_ZipB (by kernel_rfl) (by kernel_rfl)) (by kernel_rfl) (by kernel_rfl) (by kernel_rfl) (laid_met os _)) ?_
 intro W base args ds gs before hval0 hW hsz0 hL hsh
 have hsz : (DataW.weightsEach Tryz.prog (Tryz.f4.params.toList ++ Rows.asmRewritesSpec.plain.varTypes Tryz.prog) (ds ++ gs)).all (· ≤ reachBytes) = true := hsz0
 clear hsz0
 have hval : ∀ (j : Nat) t v, Tryz.f4.params[j]? = some t → args[j]? = some v → Value.okWide Tryz.prog W .any base t v := hval0
 have hW' := hW
 obtain ⟨p, q, hA0, hV, rfl, hfz, hnd⟩ := hW
 have hA : DataW.TrodAll enc Tryz.prog W 0 (fun _ => true) true Tryz.f4.params.toList args.toList ds p := hA0
 rw [Tryz.params4] at hA hval hsz
 obtain ⟨v0, vs0, d0, ds0, p0, q0, hargs0, rfl, rfl, h0, r0⟩ := trodAll_cons hA
 obtain ⟨v1, vs1, d1, ds1, p1, q1, hargs1, rfl, rfl, h1, r1⟩ := trodAll_cons r0
 obtain ⟨v2, vs2, d2, ds2, p2, q2, hargs2, rfl, rfl, h2, r2⟩ := trodAll_cons r1
 obtain ⟨rfl, rfl, rfl⟩ := trodAll_nil r2
 obtain rfl : args = #[v0, v1, v2] := by cases args; simp_all
 obtain ⟨rfl, rfl⟩ := trodVars_none hV
 have k0 := h0
 have lt0 : ∀ x ∈ p0, x.block < W.heap.size := by obtain ⟨m, hm⟩ := k0; exact DataW.trod_lt m _ _ _ hm
 obtain ⟨P0, hP0, hO0⟩ := open_pg (hval 0 25 v0 rfl rfl) h0 (fits_arg hsz (j := 0) rfl rfl)
 have k1 := h1
 have lt1 : ∀ x ∈ p1, x.block < W.heap.size := by obtain ⟨m, hm⟩ := k1; exact DataW.trod_lt m _ _ _ hm
 obtain ⟨ao1, c1, ys1, rfl, hn1, ho1, hc1⟩ := open_ways (hval 1 37 v1 rfl rfl) h1
 have hz2 := fits_arg hsz (j := 2) rfl rfl
 obtain ⟨s2, rfl, rfl, rfl, w2⟩ := open_string Tryz.underlying9 (hval 2 9 v2 rfl rfl) h2
 clear hA0 hval0
 simp only [List.append_nil] at hW'
 refine (rewrites_walk v0 P0 ys1 ao1 c1 s2 (str_fits hz2) W (gs_of hL hsh) hP0 hO0 hn1 ho1 hc1).mono fun e W' ⟨he, hk⟩ => ?_
 have bel : Below W.heap.size W W' := hk.below (Nat.le_refl _) (fun _ f => f.elim)
 subst he
 exact ⟨_, rfl, _, _, _, [], _, [], hW', trodAll_mk1 (shut_bool Tryz.underlying4 _), (trodAll_cons_mk (Below.trod (show laidOutB Tryz.prog = true by kernel_rfl) (by kernel_rfl) (of_decide_eq_true (by kernel_rfl)) k0 bel lt0) (trodAll_cons_mk (Below.trod (show laidOutB Tryz.prog = true by kernel_rfl) (by kernel_rfl) (of_decide_eq_true (by kernel_rfl)) k1 bel lt1) (trodAll_cons_mk (shut_string Tryz.underlying9 w2) trodAll_mk0))), rfl, bel.frame _, fun h => by cases h⟩
theorem over : Rows.AsmRewritesSaid :=
 OpenClaim.holds_of_wide 4 Tryz.f4 rfl rfl rfl rfl rfl rfl rfl ⟨rfl, rfl, rfl, rfl, rfl⟩ rfl rfl rfl rfl rfl (by kernel_rfl) Tryz.func4 (by kernel_rfl)
  (of_decide_eq_true (by kernel_rfl)) (by unfold Func.isWrapper; first | (rw [if_pos (by decide +kernel)]; kernel_rfl) | (rw [if_neg (by decide +kernel)]; exact ⟨rfl, rfl⟩))
  (fun os started H enc _ => lifted os started H enc)
set_option maxHeartbeats 2000000 in
theorem card : Rows.AsmRewritesCardSaid :=
 Claim7.holds_tied_plain_at .later [] [.data, .data, .data, .data, .sentinel, .sentinel, .pinned] true (true, "cf5b52c763eff2e43e8a783c1a0a5270617625fb7dc57ad44ca0774e1dd8c198") true
  (over) (fun _ h => by cases h) (by kernel_rfl) (fun _ h => by cases h) asmRewrites_row_tie rfl ⟨rfl, rfl⟩ (by kernel_rfl) rfl
  (fun f fn hf hfn => by
   obtain rfl : f = 4 := Option.some.inj ((show Tryz.prog.funcNamed "retort/retortlaw14.AsmRewrites" = some 4 by kernel_rfl).symm.trans hf) |>.symm
   obtain rfl : fn = Tryz.f4 := (Option.some.inj (Tryz.func4.symm.trans hfn)).symm
   exact ⟨by kernel_rfl, fun j t ht => by
    rw [Tryz.params4] at ht
    have hm : t ∈ [25, 37, 9] := by simpa using Array.mem_of_getElem? ht
    have hall : ([25, 37, 9].all fun u => !Tryz.prog.wantsStandIn u) = true := by kernel_rfl
    exact (show Tryz.prog.wantsStandIn t = false by simpa using List.all_eq_true.1 hall t hm)⟩)
  (by kernel_rfl)
end asmRewrites
theorem asmRewrites_holds : Rows.AsmRewritesCardSaid := asmRewrites.card
#print axioms asmRewrites_holds
end Go.Proofs.YtpfmhibdmehlcaaGreatDoor

/-
  op.readOne by contract.
-/
import Derived.Test.YtnjhnlohjhdcpabOe
import Derived.Test.YtnjhnlohjhdcpabNcl
namespace Go.Proofs.Ytnjhnlohjhdcpab
open Go.RowKit Go.Deep
set_option linter.unusedVariables false
set_option linter.unusedSimpArgs false
set_option maxRecDepth 100000

/-- An operand is read. -/
def readK : Nat → List Int → Except Int (Int × List Int)
  | 0, xs => .ok (0, xs)
  | 1, xs => intD xs
  | _, xs => numD xs
theorem readK_ge {m : Nat} (h : 2 ≤ m) (xs : List Int) : readK m xs = numD xs := by
  match m, h with
  | n + 2, _ => rfl
/-- An instruction is read. -/
def oneDI (xs : List Int) : Except Int (IN × List Int) :=
  match numD xs with
  | .error f => .error f
  | .ok (op, r1) =>
    if isRow insL op = true then
      match readK (kOf op) r1 with
      | .error f => .error f
      | .ok (a, r2) => if mayP (kOf op) a = true then .ok (⟨op, a⟩, r2) else .error 112
    else .error 111
theorem numD_rest {xs rest : List Int} {u : Int} (hb : BytesOk xs) (h : numD xs = .ok (u, rest)) : BytesOk rest := by
  obtain ⟨hs, _⟩ := numD_split hb.1 h
  have g1 := hb.1
  have g2 := hb.2
  rw [hs] at g1 g2
  exact ⟨fun x hx => g1 x (List.mem_append_right _ hx), by rw [List.length_append] at g2; omega⟩
theorem size52 : (Try.prog.info? 46).map (·.size) = some 2 := by kernel_rfl

theorem two_one (a b : Value) (ha : a.oneCell' = true) (hb : b.oneCell' = true) : #[a, b].all (·.oneCell') = true := by
  rw [Array.all_eq_true_iff_forall_mem]
  intro v hv
  simp at hv
  rcases hv with rfl | rfl <;> assumption
/-- What readOne leaves. -/
def OneP (xs : List Int) (r g : Nat) (f : Int) (w : World) : Ending → World → Prop := Outs (oneDI xs) r g f w (fun y e w' => e = .returned (.agg y.cells.toArray) ∧ y.Ok)
theorem OneP.bad {xs : List Int} {r g : Nat} {f flt : Int} {w w1 w2 : World} (h : oneDI xs = .error flt) (hr : Rd w2 r (.slice none 0 0) false flt) (hk : Kept (fun q => q = r) w w1) (hk2 : Kept (fun q => q = r) w1 w2) : OneP xs r g f w (.panicked [{ v := thrownV r, recovered := false }]) w2 := by
  unfold OneP Outs
  rw [h]
  exact ⟨rfl, hr, hk.trans hk2⟩
theorem OneP.good {xs rest : List Int} {r g : Nat} {f : Int} {w w2 : World} {y : IN} (h : oneDI xs = .ok (y, rest)) (hy : y.Ok) (ha : After w w2 r g f rest) : OneP xs r g f w (.returned (.agg y.cells.toArray)) w2 := by
  unfold OneP Outs
  rw [h]
  exact ⟨⟨rfl, hy⟩, ha⟩

set_option maxHeartbeats 16000000 in
theorem readOne_x (r g gl : Nat) (bx : Nat → Nat) (v : Value) (xs : List Int) (w : World) (f : Int) (hr : Rd w r v true f) (hx : IsR w g v xs) (hgr : g ≠ r) (hgl : g < w.heap.size) (hb : BytesOk xs) (hops : OpsAt w gl bx) (hlr : gl ≠ r) (hbr : ∀ k, 2 ≤ k → k ≤ 6 → bx k ≠ r) :
    Calls Try.prog 68 #[.pointer (some ⟨r, 0, none⟩), .slice (some ⟨gl, 0, none⟩) 46 46] w (OneP xs r g f w) := by
  have hrl : r < w.heap.size := hr.cells.2.2.2.2.2.2
  have HR := hid_of hr
  have HX := hid_of hx
  have HB := hid_of hb
  have HOP := hid_of hops
  have HBR := hid_of hbr
  clear hr hx hb hops hbr
  have hkA : Kept (fun _ => False) w (w.alloc (.cells #[.int .i64 0, .int .i64 0] 46)) := (Kept.refl _ _).alloc _
  have hA := heap_alloc_new w (.cells #[.int .i64 0, .int .i64 0] 46)
  go_enter Try.func68, Try.ntmps68
  go_upto_region 1 with fail
  generalize w.alloc (.cells #[.int .i64 0, .int .i64 0] 46) = wA at *
  have hN := num_x r g v xs wA f (HR.out.kept hkA (fun f => f)) (HX.out.kept hkA (fun f => f)) hgr HB.out.1
  cases hd : numD xs with
  | error flt =>
    have HE : Hid (oneDI xs = .error flt) := by unfold Hid oneDI; rw [hd]
    rw [hd] at hN
    have HN := hid_of hN
    have HKA := hid_of (hkA.mono (T := fun q => q = r) (fun _ _ f => f.elim))
    clear hN hkA hA hd
    go_wp2_with fail
    refine HN.out.mono ?_
    rintro e w2 ⟨rfl, h2, h3⟩
    exact ⟨rfl, OneP.bad HE.out h2 HKA.out h3⟩
  | ok q =>
    obtain ⟨op, r1⟩ := q
    have hN' : Calls Try.prog 41 #[.pointer (some ⟨r, 0, none⟩)] wA (fun e w' => (e = .returned (.int .i64 op) ∧ 0 ≤ op ∧ op ≤ 9223372036854775807) ∧ After wA w' r g f r1) := by rw [hd] at hN; exact hN
    have HN := hid_of hN'
    have HB1 := hid_of (numD_rest HB.out hd)
    have HD := hid_of hd
    have HKA := hid_of hkA
    have HA := hid_of hA
    have hszA : w.heap.size < wA.heap.size := (Array.getElem?_eq_some_iff.1 hA).1
    clear hN hN' hd hkA hA
    go_wp2_with fail
    refine HN.out.mono ?_
    rintro e w1 ⟨⟨rfl, hk0, hk1⟩, v1, ha1, ha2, ha3⟩
    have HW1 : Hid (Kept (fun q => q = r) w w1) := (HKA.out.mono (fun _ _ f => f.elim)).trans ha3
    have HA1 := hid_of ha1
    have HA2 := hid_of ha2
    have HRES := hid_of (box_kept ha3 HA.out (by omega))
    have HO1 := hid_of ((HOP.out.kept HKA.out (fun f => f) (fun _ _ _ f => f)).kept ha3 hlr HBR.out)
    have HROW := hid_of (rowk_any gl bx op w1 HO1.out (by omega) (by omega))
    clear ha1 ha2 ha3 HN HA HKA HR HX HOP hszA
    go_wp2_with fail
    refine HROW.out.mono ?_
    rintro e w2 ⟨rfl, hk2⟩
    have hone := kindR_one bx op
    have hsz : (Try.prog.info? 90).map (·.size) = some (kindR bx op).toArray.size := by rw [size74, List.size_toArray, kindR_len]
    have hs0 : (#[.nilFunc, .nilFunc, .nilFunc] : Array Value).size = (kindR bx op).toArray.size := by rw [show (kindR bx op).toArray.size = 3 by rw [List.size_toArray, kindR_len]]; rfl
    obtain ⟨hO, hX, hK⟩ := new_row w2 #[.nilFunc, .nilFunc, .nilFunc] (kindR bx op).toArray 90
    go_upto_region 3 with (refine wpList_store_row rfl 90 _ _ rfl w2.heap.size (kindR bx op).toArray rfl rfl 90 _ hO hsz hs0 hone ?_)
    clear hO hone hsz hs0
    generalize (w2.alloc _).setRow w2.heap.size (kindR bx op).toArray = w3 at *
    have hk3 := hk2.trans hK
    have HRD := hid_of (HA1.out.kept hk3 (fun f => f))
    have HIS := hid_of (HA2.out.kept hk3 (fun f => f))
    have HO3 := hid_of (HO1.out.kept hk3 (fun f => f) (fun _ _ _ f => f))
    have HRE3 := hid_of (box_kept hk3 HRES.out (fun f => f))
    have HW3 : Hid (Kept (fun q => q = r) w w3) := HW1.out.trans (hk3.mono (fun _ _ f => f.elim))
    have HBW : Hid (w.heap.size < w2.heap.size) := Nat.lt_of_lt_of_le (Array.getElem?_eq_some_iff.1 HRES.out).1 hk2.size
    generalize w2.heap.size = B at *
    clear hk2 hK hk3 HA1 HA2 HO1 HRES HROW HW1
    by_cases hrow : 0 ≤ op ∧ op < 46
    · rw [row_yes hrow]
      have hkm := kix_lt op.toNat (by omega)
      have hKR : kindR bx op = kindL bx (kOf op) := if_pos hrow
      rw [hKR] at hX
      have HDI : Hid (oneDI xs = match readK (kOf op) r1 with
          | .error f => .error f
          | .ok (a, r2) => if mayP (kOf op) a = true then .ok (⟨op, a⟩, r2) else .error 112) := by
        unfold Hid oneDI
        rw [HD.out]
        dsimp only
        rw [if_pos (row_yes hrow)]
      have HM6 : Hid (kOf op ≤ 6) := hkm.1
      have HOK : Hid (∀ a, -9223372036854775808 ≤ a → a < 9223372036854775808 → (IN.mk op a).Ok) := fun a h1 h2 => ⟨⟨by show -9223372036854775808 ≤ op; omega, by show op < 9223372036854775808; omega⟩, h1, h2⟩
      clear hkm hKR
      generalize kOf op = m at *
      clear hrow
      rcases (show m = 0 ∨ m = 1 ∨ 2 ≤ m by omega) with rfl | rfl | hm2
      · have c2 : w3.cell? ⟨B, 2, none⟩ = some (fnV 71) := by rw [cell_block _ _ _ _ _ _ hX]; rfl
        have c0 : w3.cell? ⟨B, 0, none⟩ = some (fnV 69) := by rw [cell_block _ _ _ _ _ _ hX]; rfl
        have HGOOD : Hid (oneDI xs = .ok (⟨op, 0⟩, r1)) := by unfold Hid; rw [HDI.out]; rfl
        have HAFT : Hid (After w w3 r g f r1) := ⟨v1, HRD.out, HIS.out, HW3.out⟩
        have HREW := HRE3
        clear hX
        go_wp2_with fail
        refine (read0 _ w3).mono ?_
        rintro e w4 ⟨rfl, rfl⟩
        clear c2
        go_wp2_with fail
        refine (may0 0 w4).mono ?_
        rintro e w5 ⟨rfl, rfl⟩
        rw [show ((0 : Int) == 0) = true from rfl]
        clear c0
        have hre := HREW.out
        have HXR := hid_of (setRow_heap w5 w.heap.size _ #[.int .i64 op, .int .i64 0] 46 (0, 0) hre)
        have HFIN : Hid (OneP xs r g f w (.returned (.agg (IN.mk op 0).cells.toArray)) (w5.setRow w.heap.size #[.int .i64 op, .int .i64 0])) := by
          obtain ⟨va, q1, q2, q3⟩ := HAFT.out
          have hkr := kept_row w5 w.heap.size #[.int .i64 op, .int .i64 0]
          exact OneP.good HGOOD.out (HOK.out 0 (by decide) (by decide)) ⟨va, q1.kept hkr (by omega), q2.kept hkr (by omega), q3.step hkr (fun i hi e => by omega)⟩
        go_wp2_with (refine wpList_store_row rfl 46 _ _ rfl w.heap.size #[.int .i64 op, .int .i64 0] rfl rfl 46 _ hre size52 rfl (two_one _ _ rfl rfl) ?_)
        refine bodyPost_ret (v := .agg #[.int .i64 op, .int .i64 0]) ?_ rfl HFIN.out
        exact results_cell_row (by rfl) _ _ w.heap.size 46 _ (0, 0) _ (by rfl) HXR.out Try.underlying46 rfl size52
      · have c2 : w3.cell? ⟨B, 2, none⟩ = some (fnV 75) := by rw [cell_block _ _ _ _ _ _ hX]; rfl
        have HXB := hid_of hX
        have hRK := read1 r g v1 r1 w3 f HRD.out HIS.out hgr HB1.out.1
        clear hX
        cases hd2 : intD r1 with
        | error flt =>
          have HE : Hid (oneDI xs = .error flt) := by unfold Hid; rw [HDI.out, show readK 1 r1 = intD r1 from rfl, hd2]
          rw [hd2] at hRK
          have HRK := hid_of hRK
          clear hRK hd2
          go_wp2_with fail
          refine HRK.out.mono ?_
          rintro e w4 ⟨rfl, h2, h3⟩
          exact ⟨rfl, OneP.bad HE.out h2 HW3.out h3⟩
        | ok q =>
          obtain ⟨a, r2⟩ := q
          have hRK' : Calls Try.prog 75 #[.pointer (some ⟨r, 0, none⟩)] w3 (fun e w' => (e = .returned (.int .i64 a) ∧ -9223372036854775808 ≤ a ∧ a < 9223372036854775808) ∧ After w3 w' r g f r2) := by rw [hd2] at hRK; exact hRK
          have HRK := hid_of hRK'
          have HDM : Hid (oneDI xs = if mayP 1 a = true then .ok (⟨op, a⟩, r2) else .error 112) := by unfold Hid; rw [HDI.out, show readK 1 r1 = intD r1 from rfl, hd2]
          clear hRK hRK' hd2
          go_wp2_with fail
          refine HRK.out.mono ?_
          rintro e w4 ⟨⟨rfl, hb0, hb1⟩, v4, d1, d2, d3⟩
          have hX4 := box_kept d3 HXB.out (by have := HBW.out; omega)
          have c0 : w4.cell? ⟨B, 0, none⟩ = some (fnV 72) := by rw [cell_block _ _ _ _ _ _ hX4]; rfl
          have HAFT : Hid (After w w4 r g f r2) := ⟨v4, d1, d2, HW3.out.trans d3⟩
          have HREW := hid_of (box_kept d3 HRE3.out (by omega))
          have HGOOD : Hid (oneDI xs = .ok (⟨op, a⟩, r2)) := by unfold Hid; rw [HDM.out]; rfl
          clear d1 d2 d3 hX4 HRK c2 HXB
          go_wp2_with fail
          refine (may1 a w4).mono ?_
          rintro e w5 ⟨rfl, rfl⟩
          clear c0
          have hre := HREW.out
          have HXR := hid_of (setRow_heap w5 w.heap.size _ #[.int .i64 op, .int .i64 a] 46 (0, 0) hre)
          have HFIN : Hid (OneP xs r g f w (.returned (.agg (IN.mk op a).cells.toArray)) (w5.setRow w.heap.size #[.int .i64 op, .int .i64 a])) := by
            obtain ⟨va, q1, q2, q3⟩ := HAFT.out
            have hkr := kept_row w5 w.heap.size #[.int .i64 op, .int .i64 a]
            exact OneP.good HGOOD.out (HOK.out a hb0 hb1) ⟨va, q1.kept hkr (by omega), q2.kept hkr (by omega), q3.step hkr (fun i hi e => by omega)⟩
          go_wp2_with (refine wpList_store_row rfl 46 _ _ rfl w.heap.size #[.int .i64 op, .int .i64 a] rfl rfl 46 _ hre size52 rfl (two_one _ _ rfl rfl) ?_)
          refine bodyPost_ret (v := .agg #[.int .i64 op, .int .i64 a]) ?_ rfl HFIN.out
          exact results_cell_row (by rfl) _ _ w.heap.size 46 _ (0, 0) _ (by rfl) HXR.out Try.underlying46 rfl size52
      · rw [kind_ge bx hm2] at hX
        have c2 : w3.cell? ⟨B, 2, none⟩ = some (fnV 79) := by rw [cell_block _ _ _ _ _ _ hX]; rfl
        have HXB := hid_of hX
        have hRK := read2 r g v1 r1 w3 f HRD.out HIS.out hgr HB1.out.1
        clear hX
        cases hd2 : numD r1 with
        | error flt =>
          have HE : Hid (oneDI xs = .error flt) := by unfold Hid; rw [HDI.out, readK_ge hm2, hd2]
          rw [hd2] at hRK
          have HRK := hid_of hRK
          clear hRK hd2
          go_wp2_with fail
          refine HRK.out.mono ?_
          rintro e w4 ⟨rfl, h2, h3⟩
          exact ⟨rfl, OneP.bad HE.out h2 HW3.out h3⟩
        | ok q =>
          obtain ⟨a, r2⟩ := q
          have hRK' : Calls Try.prog 79 #[.pointer (some ⟨r, 0, none⟩)] w3 (fun e w' => (e = .returned (.int .i64 a) ∧ 0 ≤ a ∧ a ≤ 9223372036854775807) ∧ After w3 w' r g f r2) := by rw [hd2] at hRK; exact hRK
          have HRK := hid_of hRK'
          have HDM : Hid (oneDI xs = if mayP m a = true then .ok (⟨op, a⟩, r2) else .error 112) := by unfold Hid; rw [HDI.out, readK_ge hm2, hd2]
          clear hRK hRK' hd2
          go_wp2_with fail
          refine HRK.out.mono ?_
          rintro e w4 ⟨⟨rfl, hb0, hb1⟩, v4, d1, d2, d3⟩
          have hX4 := box_kept d3 HXB.out (by have := HBW.out; omega)
          have c0 : w4.cell? ⟨B, 0, none⟩ = some (.func (.func 77) #[] #[.pointer (some ⟨bx m, 0, none⟩)]) := by rw [cell_block _ _ _ _ _ _ hX4]; rfl
          have HAFT : Hid (After w w4 r g f r2) := ⟨v4, d1, d2, HW3.out.trans d3⟩
          have HREW := hid_of (box_kept d3 HRE3.out (by omega))
          have hbb := (HO3.out.kept d3 hlr HBR.out).box m hm2 HM6.out
          have HV := hid_of (may_ge hm2 a)
          by_cases hmay : 0 ≤ a ∧ a < endOf m
          · have hbv : (decide (0 ≤ a) && decide (a < endOf m)) = true := by simp [hmay]
            have HGOOD : Hid (oneDI xs = .ok (⟨op, a⟩, r2)) := by unfold Hid; rw [HDM.out, if_pos (HV.out.trans hbv)]
            clear d1 d2 d3 hX4 HRK c2 HXB hmay
            go_wp2_with fail
            refine (may2 a (endOf m) (bx m) w4 hbb).mono ?_
            rintro e w5 ⟨rfl, rfl⟩
            rw [hbv]
            clear c0
            have hre := HREW.out
            have HXR := hid_of (setRow_heap w5 w.heap.size _ #[.int .i64 op, .int .i64 a] 46 (0, 0) hre)
            have HFIN : Hid (OneP xs r g f w (.returned (.agg (IN.mk op a).cells.toArray)) (w5.setRow w.heap.size #[.int .i64 op, .int .i64 a])) := by
              obtain ⟨va, q1, q2, q3⟩ := HAFT.out
              have hkr := kept_row w5 w.heap.size #[.int .i64 op, .int .i64 a]
              exact OneP.good HGOOD.out (HOK.out a (by omega) (by omega)) ⟨va, q1.kept hkr (by omega), q2.kept hkr (by omega), q3.step hkr (fun i hi e => by omega)⟩
            go_wp2_with (refine wpList_store_row rfl 46 _ _ rfl w.heap.size #[.int .i64 op, .int .i64 a] rfl rfl 46 _ hre size52 rfl (two_one _ _ rfl rfl) ?_)
            refine bodyPost_ret (v := .agg #[.int .i64 op, .int .i64 a]) ?_ rfl HFIN.out
            exact results_cell_row (by rfl) _ _ w.heap.size 46 _ (0, 0) _ (by rfl) HXR.out Try.underlying46 rfl size52
          · have hbv : (decide (0 ≤ a) && decide (a < endOf m)) = false := by rw [Bool.and_eq_false_iff, decide_eq_false_iff_not, decide_eq_false_iff_not]; omega
            have HE : Hid (oneDI xs = .error 112) := by unfold Hid; rw [HDM.out, if_neg (by rw [HV.out, hbv]; decide)]
            have HFL := hid_of (fail_x r v4 f 112 w4 d1 (by decide))
            have HW4 := hid_of (HW3.out.trans d3)
            clear d1 d2 d3 hX4 HRK c2 HXB hmay
            go_wp2_with fail
            refine (may2 a (endOf m) (bx m) w4 hbb).mono ?_
            rintro e w5 ⟨rfl, rfl⟩
            rw [hbv]
            clear c0
            go_wp2_with fail
            refine HFL.out.mono ?_
            rintro e w6 ⟨rfl, h2, h3⟩
            exact ⟨rfl, OneP.bad HE.out h2 HW4.out h3⟩
    · rw [row_not hrow]
      have HE : Hid (oneDI xs = .error 111) := by
        unfold Hid oneDI
        rw [HD.out]
        dsimp only
        rw [if_neg (by rw [row_not hrow]; decide)]
      have HFL := hid_of (fail_x r v1 f 111 w3 HRD.out (by decide))
      clear hX hrow
      go_wp2_with fail
      refine HFL.out.mono ?_
      rintro e w6 ⟨rfl, h2, h3⟩
      exact ⟨rfl, OneP.bad HE.out h2 HW3.out h3⟩
end Go.Proofs.Ytnjhnlohjhdcpab

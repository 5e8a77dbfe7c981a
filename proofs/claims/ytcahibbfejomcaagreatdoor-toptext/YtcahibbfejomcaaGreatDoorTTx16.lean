import Derived.Test.YtcahibbfejomcaaGreatDoorTTx15
namespace Go.Proofs.YtcahibbfejomcaaGreatDoor
open Go.RowKit
set_option linter.unusedVariables false
set_option linter.unusedSimpArgs false
set_option maxRecDepth 100000
def endB (x : CS) : Bool := if x.st = 2 then true else if x.st = 3 then okN (str x.un).data.toList else decide (x.st < 4)
def endS (x : CS) : CS :=
 if x.st = 2 then ⟨x.ps ++ [⟨0, str x.un, 0, false⟩], 1, [], x.hi⟩
 else if x.st = 3 then ⟨x.ps ++ [⟨1, ⟨#[]⟩, valN (str x.un).data.toList, farN (str x.un).data.toList⟩], 1, [], x.hi⟩
 else x
def EndR (I : Nat × ByteArray × Nat) (w : World) (c : Nat) (x : CS) (e : Ending) (w' : World) : Prop :=
 ∃ y, e = .returned (.bool (endB x)) ∧ CgS I w w' c y ∧ (endB x = true → y = endS x) ∧ y.ps.length ≤ x.ps.length + 1
variable {I : Nat × ByteArray × Nat}
set_option maxHeartbeats 8000000 in
theorem endG (c : Nat) (w wr : World) (x : CS) (h : CgS I w wr c x) (hG : Gs wr) (hl : x.ps.length ≤ 90000) (hu : x.un.length ≤ 900000) (hs0 : 0 ≤ x.st) (hs7 : x.st ≤ 7) :
  Calls Tryz.prog 76 #[.pointer (some ⟨c, 0, none⟩)] wr (EndR I w c x) := by
 obtain ⟨ps, st, un, hi⟩ := x
 replace h : Cg I w wr c ps st un hi := h
 simp only at hl hu hs0 hs7
 have HH := hid_of h
 obtain ⟨pv, uv, hb, hp, hu2⟩ := h.ex
 obtain ⟨c0, c1, c2, c3, f0, f1, f2, f3⟩ := look4 hb
 by_cases h2 : st = 2
 ·subst h2
  have hcv := conv_str wr uv un (isB_own hu2)
  have HCL := hid_of (closeG c 0 (str un) 0 false w wr ps 2 un hi h hl)
  obtain ⟨ua, uc, hv⟩ := ownsRow_shape hu2
  obtain ⟨n, hn⟩ := nmd (un.length)
  rw [← hn] at hv
  subst hv
  have HE : Hid (∀ w', Cg I w w' c (ps ++ [⟨0, str un, 0, false⟩]) 1 [] hi → EndR I w c ⟨ps, 2, un, hi⟩ (.returned (.bool true)) w') := fun w' hc => ⟨⟨ps ++ [⟨0, str un, 0, false⟩], 1, [], hi⟩, rfl, hc, fun _ => rfl, by simp⟩
  generalize str un = su at *
  clear h hb hp hu2 hn hl hu HH
  go_enter Tryz.func76, Tryz.ntmps76
  go_wp2_with fail
  refine HCL.out.mono ?_
  rintro e w2 ⟨⟨v, rfl⟩, hc2⟩
  have HS := hid_of hc2
  obtain ⟨_, _, hb2, _⟩ := hc2.ex
  have q1 := cell_block _ _ 1 _ _ _ hb2
  clear hc2 hb2 HCL hcv c0 c1 c2 c3 f0 f1 f2 f3
  go_wp2
  go_ret
  exact HE.out _ HS.out
 by_cases h3 : st = 3
 ·subst h3
  have hcv := conv_str wr uv un (isB_own hu2)
  have HN := hid_of (numberedG (str un) (by rw [str_size]; omega) wr hG)
  obtain ⟨ua, uc, hv⟩ := ownsRow_shape hu2
  obtain ⟨n, hn⟩ := nmd (un.length)
  rw [← hn] at hv
  subst hv
  have HE : Hid (∀ w' n f, Cg I w w' c (ps ++ [⟨1, ⟨#[]⟩, n, f⟩]) 1 [] hi → (okN (str un).data.toList = true → n = valN (str un).data.toList ∧ f = farN (str un).data.toList) → EndR I w c ⟨ps, 3, un, hi⟩ (.returned (.bool (okN (str un).data.toList))) w') := fun w' n f hc hv => by
   refine ⟨⟨ps ++ [⟨1, ⟨#[]⟩, n, f⟩], 1, [], hi⟩, rfl, hc, fun hq => ?_, by simp⟩
   obtain ⟨e1, e2⟩ := hv hq
   rw [e1, e2]
   rfl
  generalize str un = su at *
  have HL := hid_of hl
  clear h hb hp hu2 hn hl hu hG
  go_enter Tryz.func76, Tryz.ntmps76
  go_wp2_with fail
  refine HN.out.mono ?_
  rintro e w1 ⟨bd, f, rfl, hv, hk1⟩
  have HV := hid_of hv
  have HH1 := hid_of (HH.out.same hk1)
  clear hv HN HH hk1 hcv c0 c1 c2 c3 f0 f1 f2 f3
  have hka : Kept (fun _ => False) w1 (w1.alloc (.cells #[.int .i64 1, .string ⟨#[]⟩, .int .i64 bd, .bool f] 138)) := (Kept.refl _ _).alloc _
  have hba := heap_alloc_new w1 (.cells #[.int .i64 1, .string ⟨#[]⟩, .int .i64 bd, .bool f] 138)
  have HH2 := hid_of (HH1.out.same hka)
  have HBA := hid_of hba
  clear hka hba HH1
  go_upto_region 6 with fail
  generalize w1.alloc (.cells #[.int .i64 1, .string ⟨#[]⟩, .int .i64 bd, .bool f] 138) = w2 at *
  generalize w1.heap.size = g at *
  obtain ⟨x0, x1, x2, x3, _⟩ := look4 HBA.out
  have HC := hid_of (closeG c 1 ⟨#[]⟩ bd f w w2 ps 3 _ hi HH2.out HL.out)
  clear HH2 HBA
  go_wp2_with fail
  refine HC.out.mono ?_
  rintro e w3 ⟨⟨v, rfl⟩, h2⟩
  have H2 := hid_of h2
  clear h2 HC x0 x1 x2 x3
  go_wp2
  go_ret
  exact HE.out _ _ _ H2.out HV.out
 ·have e2 : (st == 2) = false := by simp; omega
  have e3 : (st == 3) = false := by simp; omega
  have HE : Hid (EndR I w c ⟨ps, st, un, hi⟩ (.returned (.bool (decide (st < 4)))) wr) := by
   have hb1 : endB ⟨ps, st, un, hi⟩ = decide (st < 4) := by unfold endB; rw [if_neg h2, if_neg h3]
   have hs1 : endS ⟨ps, st, un, hi⟩ = ⟨ps, st, un, hi⟩ := by unfold endS; rw [if_neg h2, if_neg h3]
   refine ⟨⟨ps, st, un, hi⟩, by rw [hb1], HH.out, fun _ => hs1.symm, by simp⟩
  clear h hb hp hu2 HH h2 h3 hG
  go_enter Tryz.func76, Tryz.ntmps76
  go_wp2
  go_ret
  exact HE.out
def takeP (x : CS) (r : Int) : Option CS :=
 if x.st = 2 ∨ x.st = 3 then (if goP r = true then some ⟨x.ps, x.st, x.un ++ [r], x.hi⟩ else if endB x = true then begP (endS x) r else none)
 else if x.st = 4 then withP x r
 else if x.st = 5 then escP x r
 else if x.st = 6 ∨ x.st = 7 then digP x r
 else begP x r
set_option maxHeartbeats 8000000 in
theorem takeG (c : Nat) (r : Int) (w wr : World) (x : CS) (h : CgS I w wr c x) (hG : Gs wr) (h0 : 0 ≤ r) (hl : x.ps.length ≤ 80000) (hu : x.un.length ≤ 900000) (hs0 : 0 ≤ x.st) (hs7 : x.st ≤ 7) (hhi : x.st = 7 → 0 ≤ x.hi ∧ x.hi < 16) :
  Calls Tryz.prog 75 #[.pointer (some ⟨c, 0, none⟩), .int .i32 r] wr (StepR I w wr c (takeP x r)) := by
 have HEN := hid_of (endG c w wr x h hG (by omega) hu hs0 hs7)
 have HBE := hid_of (beginG c r w wr x h h0 (by omega) hu)
 have HWI := hid_of (withinG c r w wr x h h0 (by omega) hu)
 have HES := hid_of (escapedG c r w wr x h h0 (by omega) hu)
 have HDI := hid_of (fun hst => digitsG c r w wr x h h0 hu hst)
 obtain ⟨ps, st, un, hi⟩ := x
 replace h : Cg I w wr c ps st un hi := h
 simp only at hl hu hs0 hs7 hhi
 have HH := hid_of h
 obtain ⟨pv, uv, hb, hp, hu2⟩ := h.ex
 obtain ⟨c0, c1, c2, c3, f0, f1, f2, f3⟩ := look4 hb
 clear hb hp hu2
 have HGO := hid_of (goesG r wr)
 by_cases h23 : st = 2 ∨ st = 3
 ·by_cases hg : goP r = true
  ·have hE : takeP ⟨ps, st, un, hi⟩ r = some ⟨ps, st, un ++ [r], hi⟩ := by unfold takeP; rw [if_pos h23, if_pos hg]
   have hr : r < 256 := by
    unfold goP isLP isDP at hg
    rw [Bool.or_eq_true, decide_eq_true_eq, decide_eq_true_eq] at hg
    omega
   have HGR := hid_of (growG c r w wr ps st un hi h h0 hr hu)
   have HE := hid_of hE
   generalize takeP ⟨ps, st, un, hi⟩ r = o at *
   rw [hg] at HGO
   clear h hE hl hu hG HEN HBE HWI HES HDI hg hhi HH
   rcases h23 with rfl | rfl
   ·go_enter Tryz.func75, Tryz.ntmps75
    go_wp2_with fail
    refine HGO.out.mono ?_
    rintro e w1 ⟨rfl, hw⟩
    have hw := hw.symm
    subst hw
    go_wp2_with fail
    refine HGR.out.mono ?_
    rintro e w2 ⟨⟨v, rfl⟩, hc2⟩
    have HS := hid_of hc2
    clear hc2 HGR HGO
    go_wp2
    go_ret
    exact .inl ⟨_, HE.out, rfl, HS.out⟩
   ·go_enter Tryz.func75, Tryz.ntmps75
    go_wp2_with fail
    refine HGO.out.mono ?_
    rintro e w1 ⟨rfl, hw⟩
    have hw := hw.symm
    subst hw
    go_wp2_with fail
    refine HGR.out.mono ?_
    rintro e w2 ⟨⟨v, rfl⟩, hc2⟩
    have HS := hid_of hc2
    clear hc2 HGR HGO
    go_wp2
    go_ret
    exact .inl ⟨_, HE.out, rfl, HS.out⟩
  ·have hgf : goP r = false := by simpa using hg
   rw [hgf] at HGO
   have hE : takeP ⟨ps, st, un, hi⟩ r = if endB ⟨ps, st, un, hi⟩ = true then begP (endS ⟨ps, st, un, hi⟩) r else none := by unfold takeP; rw [if_pos h23, if_neg hg]
   have HE := hid_of hE
   generalize takeP ⟨ps, st, un, hi⟩ r = o at *
   have HUL : Hid ((endS ⟨ps, st, un, hi⟩).un.length ≤ 900000) := by
    show (endS ⟨ps, st, un, hi⟩).un.length ≤ 900000
    unfold endS
    split
    ·simp
    ·split
     ·simp
     ·exact hu
   have HLL := hid_of hl
   have HBG := hid_of (fun (w2 : World) (y : CS) (hy : CgS I w w2 c y) (h1 : y.ps.length ≤ 90000) (h2 : y.un.length ≤ 900000) => beginG c r w w2 y hy h0 h1 h2)
   generalize hes : endS ⟨ps, st, un, hi⟩ = z at *
   have HES2 := hid_of hes
   generalize heb : endB ⟨ps, st, un, hi⟩ = b at *
   clear h hE hl hu hG HBE HWI HES HDI hg hgf hhi HH hes
   have HEB := hid_of heb
   clear heb
   rcases h23 with rfl | rfl
   ·go_enter Tryz.func75, Tryz.ntmps75
    go_wp2_with fail
    refine HGO.out.mono ?_
    rintro e w1 ⟨rfl, hw⟩
    have hw := hw.symm
    subst hw
    go_wp2_with fail
    refine HEN.out.mono ?_
    rintro e w2 ⟨y, rfl, hy, hye, hyl⟩
    rw [HEB.out] at hye ⊢
    have HY := hid_of hy
    clear HEN HGO hy
    cases b
    ·clear hye
     go_wp2
     go_ret
     exact .inr ⟨HE.out, rfl, HY.out.kept⟩
    ·have hyz := hye rfl
     rw [HES2.out] at hyz
     subst hyz
     have HBG2 := hid_of (HBG.out w2 y HY.out (by have := HLL.out; simp only at hyl; omega) HUL.out)
     clear hye hyl HBG
     go_wp2_with fail
     refine HBG2.out.mono ?_
     clear HBG2
     rintro e w3 (⟨y3, he3, rfl, hc3⟩ | ⟨he3, rfl, hk3⟩)
     ·have HS := hid_of hc3
      have HF := hid_of he3
      clear hc3 he3
      go_wp2
      go_ret
      exact .inl ⟨_, HE.out.trans HF.out, rfl, HS.out⟩
     ·have HS := hid_of hk3
      have HF := hid_of he3
      clear hk3 he3
      go_wp2
      go_ret
      exact .inr ⟨HE.out.trans HF.out, rfl, HS.out⟩
   ·go_enter Tryz.func75, Tryz.ntmps75
    go_wp2_with fail
    refine HGO.out.mono ?_
    rintro e w1 ⟨rfl, hw⟩
    have hw := hw.symm
    subst hw
    go_wp2_with fail
    refine HEN.out.mono ?_
    rintro e w2 ⟨y, rfl, hy, hye, hyl⟩
    rw [HEB.out] at hye ⊢
    have HY := hid_of hy
    clear HEN HGO hy
    cases b
    ·clear hye
     go_wp2
     go_ret
     exact .inr ⟨HE.out, rfl, HY.out.kept⟩
    ·have hyz := hye rfl
     rw [HES2.out] at hyz
     subst hyz
     have HBG2 := hid_of (HBG.out w2 y HY.out (by have := HLL.out; simp only at hyl; omega) HUL.out)
     clear hye hyl HBG
     go_wp2_with fail
     refine HBG2.out.mono ?_
     clear HBG2
     rintro e w3 (⟨y3, he3, rfl, hc3⟩ | ⟨he3, rfl, hk3⟩)
     ·have HS := hid_of hc3
      have HF := hid_of he3
      clear hc3 he3
      go_wp2
      go_ret
      exact .inl ⟨_, HE.out.trans HF.out, rfl, HS.out⟩
     ·have HS := hid_of hk3
      have HF := hid_of he3
      clear hk3 he3
      go_wp2
      go_ret
      exact .inr ⟨HE.out.trans HF.out, rfl, HS.out⟩
 ·have n2 : st ≠ 2 ∧ st ≠ 3 := by omega
  have e2 : (st == 2) = false := by simp; omega
  have e3 : (st == 3) = false := by simp; omega
  by_cases h4 : st = 4
  ·have hE : takeP ⟨ps, st, un, hi⟩ r = withP ⟨ps, st, un, hi⟩ r := by unfold takeP; rw [if_neg h23, if_pos h4]
   rw [hE]
   generalize withP ⟨ps, st, un, hi⟩ r = o at *
   subst h4
   clear h hE hl hu hG HEN HBE HES HDI hhi HH n2 e2 e3 h23
   go_enter Tryz.func75, Tryz.ntmps75
   go_wp2_with fail
   refine HWI.out.mono ?_
   clear HWI
   rintro e w3 (⟨y3, rfl, rfl, hc3⟩ | ⟨rfl, rfl, hk3⟩)
   ·have HS := hid_of hc3
    clear hc3
    go_wp2
    go_ret
    exact .inl ⟨_, rfl, rfl, HS.out⟩
   ·have HS := hid_of hk3
    clear hk3
    go_wp2
    go_ret
    exact .inr ⟨rfl, rfl, HS.out⟩
  have e4 : (st == 4) = false := by simp; omega
  by_cases h5 : st = 5
  ·have hE : takeP ⟨ps, st, un, hi⟩ r = escP ⟨ps, st, un, hi⟩ r := by unfold takeP; rw [if_neg h23, if_neg h4, if_pos h5]
   rw [hE]
   generalize escP ⟨ps, st, un, hi⟩ r = o at *
   subst h5
   clear h hE hl hu hG HEN HBE HWI HDI hhi HH n2 e2 e3 e4 h23 h4
   go_enter Tryz.func75, Tryz.ntmps75
   go_wp2_with fail
   refine HES.out.mono ?_
   clear HES
   rintro e w3 (⟨y3, rfl, rfl, hc3⟩ | ⟨rfl, rfl, hk3⟩)
   ·have HS := hid_of hc3
    clear hc3
    go_wp2
    go_ret
    exact .inl ⟨_, rfl, rfl, HS.out⟩
   ·have HS := hid_of hk3
    clear hk3
    go_wp2
    go_ret
    exact .inr ⟨rfl, rfl, HS.out⟩
  have e5 : (st == 5) = false := by simp; omega
  by_cases h67 : st = 6 ∨ st = 7
  ·have hE : takeP ⟨ps, st, un, hi⟩ r = digP ⟨ps, st, un, hi⟩ r := by unfold takeP; rw [if_neg h23, if_neg h4, if_neg h5, if_pos h67]
   rw [hE]
   have HD2 := hid_of (HDI.out (by rcases h67 with h | h; exact .inl h; exact .inr ⟨h, hhi h⟩))
   generalize digP ⟨ps, st, un, hi⟩ r = o at *
   clear h hE hl hu hG HEN HBE HWI HES HDI hhi HH n2 e2 e3 e4 e5 h23 h4 h5
   rcases h67 with rfl | rfl
   ·go_enter Tryz.func75, Tryz.ntmps75
    go_wp2_with fail
    refine HD2.out.mono ?_
    clear HD2
    rintro e w3 (⟨y3, rfl, rfl, hc3⟩ | ⟨rfl, rfl, hk3⟩)
    ·have HS := hid_of hc3
     clear hc3
     go_wp2
     go_ret
     exact .inl ⟨_, rfl, rfl, HS.out⟩
    ·have HS := hid_of hk3
     clear hk3
     go_wp2
     go_ret
     exact .inr ⟨rfl, rfl, HS.out⟩
   ·go_enter Tryz.func75, Tryz.ntmps75
    go_wp2_with fail
    refine HD2.out.mono ?_
    clear HD2
    rintro e w3 (⟨y3, rfl, rfl, hc3⟩ | ⟨rfl, rfl, hk3⟩)
    ·have HS := hid_of hc3
     clear hc3
     go_wp2
     go_ret
     exact .inl ⟨_, rfl, rfl, HS.out⟩
    ·have HS := hid_of hk3
     clear hk3
     go_wp2
     go_ret
     exact .inr ⟨rfl, rfl, HS.out⟩
  ·have e6 : (st == 6) = false := by simp; omega
   have e7 : (st == 7) = false := by simp; omega
   have hE : takeP ⟨ps, st, un, hi⟩ r = begP ⟨ps, st, un, hi⟩ r := by unfold takeP; rw [if_neg h23, if_neg h4, if_neg h5, if_neg h67]
   rw [hE]
   generalize begP ⟨ps, st, un, hi⟩ r = o at *
   clear h hE hl hu hG HEN HDI HWI HES hhi HH n2 h23 h4 h5 h67
   go_enter Tryz.func75, Tryz.ntmps75
   go_wp2_with fail
   refine HBE.out.mono ?_
   clear HBE
   rintro e w3 (⟨y3, rfl, rfl, hc3⟩ | ⟨rfl, rfl, hk3⟩)
   ·have HS := hid_of hc3
    clear hc3
    go_wp2
    go_ret
    exact .inl ⟨_, rfl, rfl, HS.out⟩
   ·have HS := hid_of hk3
    clear hk3
    go_wp2
    go_ret
    exact .inr ⟨rfl, rfl, HS.out⟩
end Go.Proofs.YtcahibbfejomcaaGreatDoor

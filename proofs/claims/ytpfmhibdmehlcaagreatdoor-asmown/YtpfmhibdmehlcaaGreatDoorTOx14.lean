import Derived.Test.YtpfmhibdmehlcaaGreatDoorTOx13
import Derived.Test.YtpfmhibdmehlcaaGreatDoorTOx8
import Derived.Lib.OthersKept
import Derived.Laws.RangeAny
namespace Go.Proofs.YtpfmhibdmehlcaaGreatDoor
open Go.RowKit
set_option linter.unusedVariables false
set_option linter.unusedSimpArgs false
set_option maxRecDepth 100000
def endB (x : CS) : Bool := if x.st = 2 then true else if x.st = 3 then okN (str x.un).data.toList else decide (x.st < 4)
def endS (x : CS) : CS :=
 if x.st = 2 then ⟨x.ps ++ [⟨0, str x.un, 0, false⟩], 1, [], x.hi⟩
 else if x.st = 3 then ⟨x.ps ++ [⟨1, ⟨#[]⟩, valN (str x.un).data.toList, farN (str x.un).data.toList⟩], 1, [], x.hi⟩
 else x
def EndR (I : Nat × ByteArray × Nat) (w : World) (c : Nat) (x : CS) (e : Ending) (w' : World) : Prop :=
 ∃ y, e = .returned (.bool (endB x)) ∧ CgS I w w' c y ∧ (endB x = true → y = endS x) ∧ y.ps.length ≤ x.ps.length + 1
variable {I : Nat × ByteArray × Nat}
set_option maxHeartbeats 8000000 in
theorem endG (c : Nat) (w wr : World) (x : CS) (h : CgS I w wr c x) (hG : Gs wr) (hl : x.ps.length ≤ 90000) (hu : x.un.length ≤ 900000) (hs0 : 0 ≤ x.st) (hs7 : x.st ≤ 7) :
  Calls Tryz.prog 72 #[.pointer (some ⟨c, 0, none⟩)] wr (EndR I w c x) := by
 obtain ⟨ps, st, un, hi⟩ := x
 replace h : Cg I w wr c ps st un hi := h
 simp only at hl hu hs0 hs7
 have HH := hid_of h
 obtain ⟨pv, uv, hb, hp, hu2⟩ := h.ex
 obtain ⟨c0, c1, c2, c3, f0, f1, f2, f3⟩ := look4 hb
 by_cases h2 : st = 2
 ·subst h2
  have hcv := conv_str wr uv un (isB_own hu2)
  have HCL := hid_of (closeG c 0 (str un) 0 false w wr ps 2 un hi h hl)
  obtain ⟨ua, uc, hv⟩ := ownsRow_shape hu2
  obtain ⟨n, hn⟩ := nmd (un.length)
  rw [← hn] at hv
  subst hv
  have HE : Hid (∀ w', Cg I w w' c (ps ++ [⟨0, str un, 0, false⟩]) 1 [] hi → EndR I w c ⟨ps, 2, un, hi⟩ (.returned (.bool true)) w') := fun w' hc => ⟨⟨ps ++ [⟨0, str un, 0, false⟩], 1, [], hi⟩, rfl, hc, fun _ => rfl, by simp⟩
  generalize str un = su at *
  clear h hb hp hu2 hn hl hu HH
  go_enter Tryz.func72, Tryz.ntmps72
  go_wp2_with fail
  refine HCL.out.mono ?_
  rintro e w2 ⟨⟨v, rfl⟩, hc2⟩
  have HS := hid_of hc2
  obtain ⟨_, _, hb2, _⟩ := hc2.ex
  have q1 := cell_block _ _ 1 _ _ _ hb2
  clear hc2 hb2 HCL hcv c0 c1 c2 c3 f0 f1 f2 f3
  go_wp2
  go_ret
  exact HE.out _ HS.out
 by_cases h3 : st = 3
 ·subst h3
  have hcv := conv_str wr uv un (isB_own hu2)
  have HN := hid_of (numberedG (str un) (by rw [str_size]; omega) wr hG)
  obtain ⟨ua, uc, hv⟩ := ownsRow_shape hu2
  obtain ⟨n, hn⟩ := nmd (un.length)
  rw [← hn] at hv
  subst hv
  have HE : Hid (∀ w' n f, Cg I w w' c (ps ++ [⟨1, ⟨#[]⟩, n, f⟩]) 1 [] hi → (okN (str un).data.toList = true → n = valN (str un).data.toList ∧ f = farN (str un).data.toList) → EndR I w c ⟨ps, 3, un, hi⟩ (.returned (.bool (okN (str un).data.toList))) w') := fun w' n f hc hv => by
   refine ⟨⟨ps ++ [⟨1, ⟨#[]⟩, n, f⟩], 1, [], hi⟩, rfl, hc, fun hq => ?_, by simp⟩
   obtain ⟨e1, e2⟩ := hv hq
   rw [e1, e2]
   rfl
  generalize str un = su at *
  have HL := hid_of hl
  clear h hb hp hu2 hn hl hu hG
  go_enter Tryz.func72, Tryz.ntmps72
  go_wp2_with fail
  refine HN.out.mono ?_
  rintro e w1 ⟨bd, f, rfl, hv, hk1⟩
  have HV := hid_of hv
  have HH1 := hid_of (HH.out.same hk1)
  clear hv HN HH hk1 hcv c0 c1 c2 c3 f0 f1 f2 f3
  have hka : Kept (fun _ => False) w1 (w1.alloc (.cells #[.int .i64 1, .string ⟨#[]⟩, .int .i64 bd, .bool f] 125)) := (Kept.refl _ _).alloc _
  have hba := heap_alloc_new w1 (.cells #[.int .i64 1, .string ⟨#[]⟩, .int .i64 bd, .bool f] 125)
  have HH2 := hid_of (HH1.out.same hka)
  have HBA := hid_of hba
  clear hka hba HH1
  go_upto_region 6 with fail
  generalize w1.alloc (.cells #[.int .i64 1, .string ⟨#[]⟩, .int .i64 bd, .bool f] 125) = w2 at *
  generalize w1.heap.size = g at *
  obtain ⟨x0, x1, x2, x3, _⟩ := look4 HBA.out
  have HC := hid_of (closeG c 1 ⟨#[]⟩ bd f w w2 ps 3 _ hi HH2.out HL.out)
  clear HH2 HBA
  go_wp2_with fail
  refine HC.out.mono ?_
  rintro e w3 ⟨⟨v, rfl⟩, h2⟩
  have H2 := hid_of h2
  clear h2 HC x0 x1 x2 x3
  go_wp2
  go_ret
  exact HE.out _ _ _ H2.out HV.out
 ·have e2 : (st == 2) = false := by simp; omega
  have e3 : (st == 3) = false := by simp; omega
  have HE : Hid (EndR I w c ⟨ps, st, un, hi⟩ (.returned (.bool (decide (st < 4)))) wr) := by
   have hb1 : endB ⟨ps, st, un, hi⟩ = decide (st < 4) := by unfold endB; rw [if_neg h2, if_neg h3]
   have hs1 : endS ⟨ps, st, un, hi⟩ = ⟨ps, st, un, hi⟩ := by unfold endS; rw [if_neg h2, if_neg h3]
   refine ⟨⟨ps, st, un, hi⟩, by rw [hb1], HH.out, fun _ => hs1.symm, by simp⟩
  clear h hb hp hu2 HH h2 h3 hG
  go_enter Tryz.func72, Tryz.ntmps72
  go_wp2
  go_ret
  exact HE.out
def takeP (x : CS) (r : Int) : Option CS :=
 if x.st = 2 ∨ x.st = 3 then (if goP r = true then some ⟨x.ps, x.st, x.un ++ [r], x.hi⟩ else if endB x = true then begP (endS x) r else none)
 else if x.st = 4 then withP x r
 else if x.st = 5 then escP x r
 else if x.st = 6 ∨ x.st = 7 then digP x r
 else begP x r
set_option maxHeartbeats 8000000 in
theorem takeG (c : Nat) (r : Int) (w wr : World) (x : CS) (h : CgS I w wr c x) (hG : Gs wr) (h0 : 0 ≤ r) (hl : x.ps.length ≤ 80000) (hu : x.un.length ≤ 900000) (hs0 : 0 ≤ x.st) (hs7 : x.st ≤ 7) (hhi : x.st = 7 → 0 ≤ x.hi ∧ x.hi < 16) :
  Calls Tryz.prog 71 #[.pointer (some ⟨c, 0, none⟩), .int .i32 r] wr (StepR I w wr c (takeP x r)) := by
 have HEN := hid_of (endG c w wr x h hG (by omega) hu hs0 hs7)
 have HBE := hid_of (beginG c r w wr x h h0 (by omega) hu)
 have HWI := hid_of (withinG c r w wr x h h0 (by omega) hu)
 have HES := hid_of (escapedG c r w wr x h h0 (by omega) hu)
 have HDI := hid_of (fun hst => digitsG c r w wr x h h0 hu hst)
 obtain ⟨ps, st, un, hi⟩ := x
 replace h : Cg I w wr c ps st un hi := h
 simp only at hl hu hs0 hs7 hhi
 have HH := hid_of h
 obtain ⟨pv, uv, hb, hp, hu2⟩ := h.ex
 obtain ⟨c0, c1, c2, c3, f0, f1, f2, f3⟩ := look4 hb
 clear hb hp hu2
 have HGO := hid_of (goesG r wr)
 by_cases h23 : st = 2 ∨ st = 3
 ·by_cases hg : goP r = true
  ·have hE : takeP ⟨ps, st, un, hi⟩ r = some ⟨ps, st, un ++ [r], hi⟩ := by unfold takeP; rw [if_pos h23, if_pos hg]
   have hr : r < 256 := by
    unfold goP isLP isDP at hg
    rw [Bool.or_eq_true, decide_eq_true_eq, decide_eq_true_eq] at hg
    omega
   have HGR := hid_of (growG c r w wr ps st un hi h h0 hr hu)
   have HE := hid_of hE
   generalize takeP ⟨ps, st, un, hi⟩ r = o at *
   rw [hg] at HGO
   clear h hE hl hu hG HEN HBE HWI HES HDI hg hhi HH
   rcases h23 with rfl | rfl
   ·go_enter Tryz.func71, Tryz.ntmps71
    go_wp2_with fail
    refine HGO.out.mono ?_
    rintro e w1 ⟨rfl, hw⟩
    have hw := hw.symm
    subst hw
    go_wp2_with fail
    refine HGR.out.mono ?_
    rintro e w2 ⟨⟨v, rfl⟩, hc2⟩
    have HS := hid_of hc2
    clear hc2 HGR HGO
    go_wp2
    go_ret
    exact .inl ⟨_, HE.out, rfl, HS.out⟩
   ·go_enter Tryz.func71, Tryz.ntmps71
    go_wp2_with fail
    refine HGO.out.mono ?_
    rintro e w1 ⟨rfl, hw⟩
    have hw := hw.symm
    subst hw
    go_wp2_with fail
    refine HGR.out.mono ?_
    rintro e w2 ⟨⟨v, rfl⟩, hc2⟩
    have HS := hid_of hc2
    clear hc2 HGR HGO
    go_wp2
    go_ret
    exact .inl ⟨_, HE.out, rfl, HS.out⟩
  ·have hgf : goP r = false := by simpa using hg
   rw [hgf] at HGO
   have hE : takeP ⟨ps, st, un, hi⟩ r = if endB ⟨ps, st, un, hi⟩ = true then begP (endS ⟨ps, st, un, hi⟩) r else none := by unfold takeP; rw [if_pos h23, if_neg hg]
   have HE := hid_of hE
   generalize takeP ⟨ps, st, un, hi⟩ r = o at *
   have HUL : Hid ((endS ⟨ps, st, un, hi⟩).un.length ≤ 900000) := by
    show (endS ⟨ps, st, un, hi⟩).un.length ≤ 900000
    unfold endS
    split
    ·simp
    ·split
     ·simp
     ·exact hu
   have HLL := hid_of hl
   have HBG := hid_of (fun (w2 : World) (y : CS) (hy : CgS I w w2 c y) (h1 : y.ps.length ≤ 90000) (h2 : y.un.length ≤ 900000) => beginG c r w w2 y hy h0 h1 h2)
   generalize hes : endS ⟨ps, st, un, hi⟩ = z at *
   have HES2 := hid_of hes
   generalize heb : endB ⟨ps, st, un, hi⟩ = b at *
   clear h hE hl hu hG HBE HWI HES HDI hg hgf hhi HH hes
   have HEB := hid_of heb
   clear heb
   rcases h23 with rfl | rfl
   ·go_enter Tryz.func71, Tryz.ntmps71
    go_wp2_with fail
    refine HGO.out.mono ?_
    rintro e w1 ⟨rfl, hw⟩
    have hw := hw.symm
    subst hw
    go_wp2_with fail
    refine HEN.out.mono ?_
    rintro e w2 ⟨y, rfl, hy, hye, hyl⟩
    rw [HEB.out] at hye ⊢
    have HY := hid_of hy
    clear HEN HGO hy
    cases b
    ·clear hye
     go_wp2
     go_ret
     exact .inr ⟨HE.out, rfl, HY.out.kept⟩
    ·have hyz := hye rfl
     rw [HES2.out] at hyz
     subst hyz
     have HBG2 := hid_of (HBG.out w2 y HY.out (by have := HLL.out; simp only at hyl; omega) HUL.out)
     clear hye hyl HBG
     go_wp2_with fail
     refine HBG2.out.mono ?_
     clear HBG2
     rintro e w3 (⟨y3, he3, rfl, hc3⟩ | ⟨he3, rfl, hk3⟩)
     ·have HS := hid_of hc3
      have HF := hid_of he3
      clear hc3 he3
      go_wp2
      go_ret
      exact .inl ⟨_, HE.out.trans HF.out, rfl, HS.out⟩
     ·have HS := hid_of hk3
      have HF := hid_of he3
      clear hk3 he3
      go_wp2
      go_ret
      exact .inr ⟨HE.out.trans HF.out, rfl, HS.out⟩
   ·go_enter Tryz.func71, Tryz.ntmps71
    go_wp2_with fail
    refine HGO.out.mono ?_
    rintro e w1 ⟨rfl, hw⟩
    have hw := hw.symm
    subst hw
    go_wp2_with fail
    refine HEN.out.mono ?_
    rintro e w2 ⟨y, rfl, hy, hye, hyl⟩
    rw [HEB.out] at hye ⊢
    have HY := hid_of hy
    clear HEN HGO hy
    cases b
    ·clear hye
     go_wp2
     go_ret
     exact .inr ⟨HE.out, rfl, HY.out.kept⟩
    ·have hyz := hye rfl
     rw [HES2.out] at hyz
     subst hyz
     have HBG2 := hid_of (HBG.out w2 y HY.out (by have := HLL.out; simp only at hyl; omega) HUL.out)
     clear hye hyl HBG
     go_wp2_with fail
     refine HBG2.out.mono ?_
     clear HBG2
     rintro e w3 (⟨y3, he3, rfl, hc3⟩ | ⟨he3, rfl, hk3⟩)
     ·have HS := hid_of hc3
      have HF := hid_of he3
      clear hc3 he3
      go_wp2
      go_ret
      exact .inl ⟨_, HE.out.trans HF.out, rfl, HS.out⟩
     ·have HS := hid_of hk3
      have HF := hid_of he3
      clear hk3 he3
      go_wp2
      go_ret
      exact .inr ⟨HE.out.trans HF.out, rfl, HS.out⟩
 ·have n2 : st ≠ 2 ∧ st ≠ 3 := by omega
  have e2 : (st == 2) = false := by simp; omega
  have e3 : (st == 3) = false := by simp; omega
  by_cases h4 : st = 4
  ·have hE : takeP ⟨ps, st, un, hi⟩ r = withP ⟨ps, st, un, hi⟩ r := by unfold takeP; rw [if_neg h23, if_pos h4]
   rw [hE]
   generalize withP ⟨ps, st, un, hi⟩ r = o at *
   subst h4
   clear h hE hl hu hG HEN HBE HES HDI hhi HH n2 e2 e3 h23
   go_enter Tryz.func71, Tryz.ntmps71
   go_wp2_with fail
   refine HWI.out.mono ?_
   clear HWI
   rintro e w3 (⟨y3, rfl, rfl, hc3⟩ | ⟨rfl, rfl, hk3⟩)
   ·have HS := hid_of hc3
    clear hc3
    go_wp2
    go_ret
    exact .inl ⟨_, rfl, rfl, HS.out⟩
   ·have HS := hid_of hk3
    clear hk3
    go_wp2
    go_ret
    exact .inr ⟨rfl, rfl, HS.out⟩
  have e4 : (st == 4) = false := by simp; omega
  by_cases h5 : st = 5
  ·have hE : takeP ⟨ps, st, un, hi⟩ r = escP ⟨ps, st, un, hi⟩ r := by unfold takeP; rw [if_neg h23, if_neg h4, if_pos h5]
   rw [hE]
   generalize escP ⟨ps, st, un, hi⟩ r = o at *
   subst h5
   clear h hE hl hu hG HEN HBE HWI HDI hhi HH n2 e2 e3 e4 h23 h4
   go_enter Tryz.func71, Tryz.ntmps71
   go_wp2_with fail
   refine HES.out.mono ?_
   clear HES
   rintro e w3 (⟨y3, rfl, rfl, hc3⟩ | ⟨rfl, rfl, hk3⟩)
   ·have HS := hid_of hc3
    clear hc3
    go_wp2
    go_ret
    exact .inl ⟨_, rfl, rfl, HS.out⟩
   ·have HS := hid_of hk3
    clear hk3
    go_wp2
    go_ret
    exact .inr ⟨rfl, rfl, HS.out⟩
  have e5 : (st == 5) = false := by simp; omega
  by_cases h67 : st = 6 ∨ st = 7
  ·have hE : takeP ⟨ps, st, un, hi⟩ r = digP ⟨ps, st, un, hi⟩ r := by unfold takeP; rw [if_neg h23, if_neg h4, if_neg h5, if_pos h67]
   rw [hE]
   have HD2 := hid_of (HDI.out (by rcases h67 with h | h; exact .inl h; exact .inr ⟨h, hhi h⟩))
   generalize digP ⟨ps, st, un, hi⟩ r = o at *
   clear h hE hl hu hG HEN HBE HWI HES HDI hhi HH n2 e2 e3 e4 e5 h23 h4 h5
   rcases h67 with rfl | rfl
   ·go_enter Tryz.func71, Tryz.ntmps71
    go_wp2_with fail
    refine HD2.out.mono ?_
    clear HD2
    rintro e w3 (⟨y3, rfl, rfl, hc3⟩ | ⟨rfl, rfl, hk3⟩)
    ·have HS := hid_of hc3
     clear hc3
     go_wp2
     go_ret
     exact .inl ⟨_, rfl, rfl, HS.out⟩
    ·have HS := hid_of hk3
     clear hk3
     go_wp2
     go_ret
     exact .inr ⟨rfl, rfl, HS.out⟩
   ·go_enter Tryz.func71, Tryz.ntmps71
    go_wp2_with fail
    refine HD2.out.mono ?_
    clear HD2
    rintro e w3 (⟨y3, rfl, rfl, hc3⟩ | ⟨rfl, rfl, hk3⟩)
    ·have HS := hid_of hc3
     clear hc3
     go_wp2
     go_ret
     exact .inl ⟨_, rfl, rfl, HS.out⟩
    ·have HS := hid_of hk3
     clear hk3
     go_wp2
     go_ret
     exact .inr ⟨rfl, rfl, HS.out⟩
  ·have e6 : (st == 6) = false := by simp; omega
   have e7 : (st == 7) = false := by simp; omega
   have hE : takeP ⟨ps, st, un, hi⟩ r = begP ⟨ps, st, un, hi⟩ r := by unfold takeP; rw [if_neg h23, if_neg h4, if_neg h5, if_neg h67]
   rw [hE]
   generalize begP ⟨ps, st, un, hi⟩ r = o at *
   clear h hE hl hu hG HEN HDI HWI HES hhi HH n2 h23 h4 h5 h67
   go_enter Tryz.func71, Tryz.ntmps71
   go_wp2_with fail
   refine HBE.out.mono ?_
   clear HBE
   rintro e w3 (⟨y3, rfl, rfl, hc3⟩ | ⟨rfl, rfl, hk3⟩)
   ·have HS := hid_of hc3
    clear hc3
    go_wp2
    go_ret
    exact .inl ⟨_, rfl, rfl, HS.out⟩
   ·have HS := hid_of hk3
    clear hk3
    go_wp2
    go_ret
    exact .inr ⟨rfl, rfl, HS.out⟩
end Go.Proofs.YtpfmhibdmehlcaaGreatDoor
namespace Go.Proofs.YtpfmhibdmehlcaaGreatDoor
open Go.RowKit
set_option linter.unusedVariables false
set_option linter.unusedSimpArgs false
set_option maxRecDepth 100000
def mu (x : CS) : Nat := x.ps.length + (if 2 ≤ x.st then 1 else 0)
def OkS (x : CS) : Prop := 0 ≤ x.st ∧ x.st ≤ 7 ∧ (x.st = 7 → 0 ≤ x.hi ∧ x.hi < 16)
def TkOk (x y : CS) : Prop := OkS y ∧ mu y ≤ mu x + 1 ∧ y.un.length ≤ x.un.length + 1
theorem beg_ok {x y : CS} {r : Int} (h : begP x r = some y) (h0 : 0 ≤ x.st) (h1 : x.st ≤ 1) : TkOk x y := by
 obtain ⟨ps, st, un, hi⟩ := x
 simp only at h0 h1
 have e : ¬ (2 ≤ st) := by omega
 unfold begP at h
 simp only at h
 repeat' split at h
 all_goals first | (injection h with h; subst h; refine ⟨⟨?_, ?_, ?_⟩, ?_, ?_⟩ <;> simp only [mu, List.length_append, List.length_cons, List.length_nil] <;> (try simp only [if_neg e]) <;> (try split) <;> omega) | cases h
theorem tak_ok {x y : CS} {r : Int} (h : takeP x r = some y) (hx : OkS x) : TkOk x y := by
 unfold takeP at h
 by_cases h23 : x.st = 2 ∨ x.st = 3
 ·rw [if_pos h23] at h
  split at h
  ·injection h with h
   subst h
   obtain ⟨h1, h2, h3⟩ := hx
   refine ⟨⟨h1, h2, h3⟩, ?_, ?_⟩
   ·show mu _ ≤ mu _ + 1
    unfold mu
    exact Nat.le_succ _
   ·simp
  ·split at h
   ·have hes : (endS x).st = 1 ∧ (endS x).ps.length = x.ps.length + 1 ∧ (endS x).un = [] := by
     unfold endS
     rcases h23 with h2 | h3
     ·rw [if_pos h2]; simp
     ·rw [if_neg (by omega), if_pos h3]; simp
    obtain ⟨e1, e2, e3⟩ := hes
    have hb := beg_ok h (by omega) (by omega)
    refine ⟨hb.1, ?_, ?_⟩
    ·have h4 : mu (endS x) = mu x := by
      unfold mu
      rw [e1, e2, if_neg (show ¬ (2 : Int) ≤ 1 by decide), if_pos (by omega)]
     rw [← h4]
     exact hb.2.1
    ·have := hb.2.2
     rw [e3] at this
     simp only [List.length_nil] at this
     omega
   ·cases h
 ·rw [if_neg h23] at h
  split at h
  ·unfold withP at h
   obtain ⟨ps, st, un, hi⟩ := x
   simp only at *
   rename_i h4
   subst h4
   repeat' split at h
   all_goals first | (injection h with h; subst h; refine ⟨⟨?_, ?_, ?_⟩, ?_, ?_⟩ <;> simp [mu]) | cases h
  ·split at h
   ·unfold escP at h
    obtain ⟨ps, st, un, hi⟩ := x
    simp only at *
    rename_i h4 h5
    subst h5
    repeat' split at h
    all_goals first | (injection h with h; subst h; refine ⟨⟨?_, ?_, ?_⟩, ?_, ?_⟩ <;> simp [mu]) | cases h
   ·split at h
    ·unfold digP at h
     obtain ⟨ps, st, un, hi⟩ := x
     simp only at *
     rename_i h4 h5 h67
     have hl := hex_lt r
     repeat' split at h
     all_goals first | (injection h with h; subst h; refine ⟨⟨?_, ?_, ?_⟩, ?_, ?_⟩ <;> simp only [mu, List.length_append, List.length_cons, List.length_nil] <;> (try split) <;> (try split) <;> omega) | cases h
    ·obtain ⟨h1, h2, h3⟩ := hx
     exact beg_ok h h1 (by omega)
theorem beg_high (x : CS) (r : Int) (h : 128 ≤ r) : begP x r = none := by
 have hL : isLP r = false := decide_eq_false (by omega)
 have hD : isDP r = false := decide_eq_false (by omega)
 unfold begP
 rw [if_neg (by omega), if_neg (by omega)]
 split
 ·rfl
 ·rw [if_neg (by omega), if_neg (by rw [hL]; decide), if_neg (by rw [hD]; simp; omega)]
theorem take_high (x : CS) (r : Int) (h : 128 ≤ r) : takeP x r = none := by
 have hL : isLP r = false := decide_eq_false (by omega)
 have hD : isDP r = false := decide_eq_false (by omega)
 unfold takeP
 split
 ·rw [if_neg (by unfold goP; rw [hL, hD]; decide), beg_high _ _ h]
  split <;> rfl
 ·split
  ·unfold withP
   rw [if_neg (by omega), if_neg (by omega), if_pos (by omega)]
  ·split
   ·unfold escP
    rw [if_neg (by omega), if_neg (by omega)]
   ·split
    ·unfold digP
     rw [if_pos]
     unfold hexP
     rw [if_neg (by omega), if_neg (by omega)]
     decide
    ·exact beg_high x r h
def cutF : List UInt8 → CS → Option CS
 | [], x => some x
 | b :: l, x => if b.toNat = 59 ∧ x.st < 4 then some x else (match takeP x b.toNat with | none => none | some y => cutF l y)
def cutV (l : List UInt8) : Option (List Pf) := match cutF l ⟨[], 0, [], 0⟩ with | none => none | some x => if endB x = true then some (endS x).ps else none
theorem Cg.next {w wr : World} {c k pos : Nat} {s : ByteArray} {ps : List Pf} {st : Int} {un : List Int} {hi : Int} (h : Cg (k, s, pos) w wr c ps st un hi) (q : Nat) : Cg (k, s, q) w (wr.iterAt k s q) c ps st un hi := by
 have hk : Kept (fun j => j = k) wr (wr.iterAt k s q) := ⟨rfl, rfl, rfl, by simp [World.iterAt], fun j _ hn => by
  show (wr.heap.setIfInBounds k _)[j]? = _
  rw [Array.getElem?_setIfInBounds, if_neg (fun e => hn e.symm)]⟩
 obtain ⟨pv, uv, h1, h2, h3⟩ := h.ex
 have hit : wr.heap[k]? = some (.stringIter s pos) := h.it
 exact ⟨⟨pv, uv, box_kept hk h1 (fun e => box_iter h1 hit e.symm), hk.ownsRow h2 (fun g hg e => own_iter h2 hit (by rw [hg, e])), hk.ownsRow h3 (fun g hg e => own_iter h3 hit (by rw [hg, e]))⟩, h.kept.step hk (fun i hi e => by have := h.ilo; simp only at this; omega), h.lo, Lib.iterAt_heap wr k s pos q hit, h.ilo⟩
def CutG (l : List UInt8) (w : World) (e : Ending) (w' : World) : Prop :=
 ∃ (v : Value) (b : Bool), e = .returned (.tuple #[v, .bool b]) ∧ Kept (fun _ => False) w w' ∧ ((b = true ∧ ∃ ps, cutV l = some ps ∧ w'.ownsRow w.heap.size 125 4 v ps.length (fcells ps)) ∨ (b = false ∧ cutV l = none))
set_option maxHeartbeats 8000000 in
theorem cutG (s : ByteArray) (hs : s.size ≤ 65536) (w : World) (hG : Gs w) :
  Calls Tryz.prog 52 #[.string s] w (CutG s.data.toList w) := by
 have HG := hid_of hG
 have hkA : Kept (fun _ => False) w (w.alloc (.cells #[.slice none 0 0, .int .i64 0, .slice none 0 0, .int .i64 0] 154)) := (Kept.refl _ _).alloc _
 have HC0 : Hid (CgS (w.heap.size + 1, s, 0) w ((w.alloc (.cells #[.slice none 0 0, .int .i64 0, .slice none 0 0, .int .i64 0] 154)).iter s 0) w.heap.size ⟨[], 0, [], 0⟩) := by
  have hkB : Kept (fun _ => False) (w.alloc (.cells #[.slice none 0 0, .int .i64 0, .slice none 0 0, .int .i64 0] 154)) ((w.alloc (.cells #[.slice none 0 0, .int .i64 0, .slice none 0 0, .int .i64 0] 154)).iter s 0) := (Kept.refl _ _).alloc _
  refine ⟨⟨_, _, box_kept hkB (heap_alloc_new w _) id, World.ownsRow_nil _ _ _ _, World.ownsRow_nil _ _ _ _⟩, hkA.trans hkB, Nat.le_refl _, ?_, Nat.le_succ _⟩
  have h5 := World.iter_heap (w.alloc (.cells #[.slice none 0 0, .int .i64 0, .slice none 0 0, .int .i64 0] 154)) s 0
  simpa using h5
 obtain ⟨bs, hbs⟩ := nmd (s.data.toList)
 have hbl : bs.length = s.size := by rw [hbs, Lib.size_eq]
 have hbg : ∀ (j : Nat) (hj : j < s.size), bs[j]'(by omega) = s[j]'hj := fun j hj => by subst hbs; rfl
 rw [← hbs]
 have HF : Hid (cutF (bs.drop 0) ⟨[], 0, [], 0⟩ = cutF bs ⟨[], 0, [], 0⟩) := rfl
 have HBG := hid_of hbg
 clear hG hkA hbs hbg
 go_enter Tryz.func52, Tryz.ntmps52
 go_wp2
 generalize hw0 : (w.alloc (.cells #[.slice none 0 0, .int .i64 0, .slice none 0 0, .int .i64 0] 154)).iter s 0 = W0 at *
 clear hw0
 generalize w.heap.size + 1 = ik at *
 obtain ⟨c, hc⟩ := nmd (w.heap.size)
 rw [← hc] at HC0 ⊢
 have HCW := hid_of hc
 clear hc
 go_loopw [6] (fun _ wr => ∃ (pos : Nat) (y : CS), pos ≤ s.size ∧ Hid (CgS (ik, s, pos) w wr c y) ∧ Hid (cutF (bs.drop pos) y = cutF bs ⟨[], 0, [], 0⟩) ∧ OkS y ∧ mu y ≤ pos ∧ y.un.length ≤ pos) (fun _ wr => s.size - wr.iterPos ik)
 case atStart => exact ⟨0, ⟨[], 0, [], 0⟩, Nat.zero_le _, HC0, HF, ⟨by decide, by decide, fun h => absurd h (by decide)⟩, Nat.le_refl _, Nat.le_refl _⟩
 case round =>
  clear HC0 HF
  obtain ⟨pos, y, hps, HC, HF, hok, hy1, hy2⟩ := hrel
  have hit : wr.heap[ik]? = some (.stringIter s pos) := HC.out.it
  have hyl : y.ps.length ≤ pos := by unfold mu at hy1; omega
  by_cases hp : pos < s.size
  ·obtain ⟨r, wd, hnext, hr0, ht, h59, hwd⟩ : ∃ (r : Int) (wd : Nat), (∀ ty, (Instr.next (.pointer (some ⟨ik, 0, none⟩)) true ty).run Tryz.prog wr = .ok (.tuple #[.bool true, .int .i64 pos, .int .i32 r]) (wr.iterAt ik s (pos + wd))) ∧ 0 ≤ r ∧ takeP y r = takeP y ((s[pos]'hp).toNat : Int) ∧ (r = 59 ↔ (s[pos]'hp).toNat = 59) ∧ (takeP y r ≠ none → wd = 1) := by
    by_cases h128 : (s[pos]'hp).toNat < 128
    ·exact ⟨_, 1, fun ty => Lib.run_next_ascii_at wr ik s pos ty hit hp h128, by omega, rfl, by omega, fun _ => rfl⟩
    ·have hd := decode_high s pos hp (by omega)
     exact ⟨_, _, fun ty => Lib.run_next_any_at wr ik s pos ty hit hp, by omega, by rw [take_high _ _ (show (128 : Int) ≤ _ by omega), take_high _ _ (by omega)], by omega, fun h => absurd (take_high _ _ (show (128 : Int) ≤ _ by omega)) h⟩
   have hdr : bs.drop pos = (s[pos]'hp) :: bs.drop (pos + 1) := by rw [List.drop_eq_getElem_cons (show pos < bs.length by omega), HBG.out pos hp]
   have hf := HF.out
   rw [hdr, cutF, ← ht] at hf
   have HC1 := hid_of (HC.out.next (pos + wd))
   have HMU : Hid (wr.iterPos ik = pos) := by unfold Hid; simp [World.iterPos, hit]
   generalize hW1 : wr.iterAt ik s (pos + wd) = W1 at *
   clear hW1
   have hkw := HC1.out.kept
   obtain ⟨pv, uv, hb, hp1, hu1⟩ := HC1.out.ex
   obtain ⟨c0, c1, c2, c3, f0, f1, f2, f3⟩ := look4 hb
   clear hb hp1 hu1 hdr hit ht HF HC
   by_cases hsm : (s[pos]'hp).toNat = 59 ∧ y.st < 4
   ·rw [if_pos hsm] at hf
    have hr := h59.2 hsm.1
    have hst := hsm.2
    have HFX := hid_of hf
    have HT := hid_of (endG c w W1 y HC1.out (HG.out.same hkw) (by omega) (by omega) hok.1 hok.2.1)
    subst hr
    clear hf hsm h59 hwd hkw HC1 hr0
    go_wp2_with fail
    refine HT.out.mono ?_
    rintro e W2 ⟨z, rfl, h2, hz, hzl⟩
    have HV : Hid (endB y = true → cutV bs = some z.ps) := fun hb => by
     unfold cutV
     rw [← HFX.out]
     simp only
     rw [if_pos hb, hz hb]
    have HV2 : Hid (endB y = false → cutV bs = none) := fun hb => by
     unfold cutV
     rw [← HFX.out]
     simp only
     rw [if_neg (by rw [hb]; decide)]
    obtain ⟨pv2, uv2, hb2, hp2, hu2⟩ := h2.ex
    obtain ⟨k0, k1, k2, k3, _⟩ := look4 hb2
    have HP2 := hid_of hp2
    have HK2 := hid_of h2.kept
    obtain ⟨pa, pc, hpv⟩ := ownsRow_shape hp2
    subst hpv
    clear hb2 hp2 hu2 h2 hz hzl HT hnext hok hy1 hy2
    generalize endB y = eb at *
    go_wp2
    go_ret2
    refine ⟨_, eb, rfl, HK2.out, ?_⟩
    cases eb
    ·exact .inr ⟨rfl, HV2.out rfl⟩
    ·exact .inl ⟨rfl, z.ps, HV.out rfl, by rw [HCW.out]; exact HP2.out⟩
   ·rw [if_neg hsm] at hf
    have HFX := hid_of hf
    have HT := hid_of (takeG c r w W1 y HC1.out (HG.out.same hkw) hr0 (by omega) (by omega) hok.1 hok.2.1 hok.2.2)
    have HTK := hid_of (fun z (hz : takeP y r = some z) => tak_ok hz hok)
    have HWD := hid_of hwd
    have HNS : Hid (r = 59 → ¬ y.st < 4) := fun e h => hsm ⟨h59.1 e, h⟩
    clear hf hsm h59 hwd hkw HC1
    by_cases hr59 : r = 59
    ·have hst := HNS.out hr59
     subst hr59
     go_wp2_with fail
     refine HT.out.mono ?_
     clear HT
     rintro e W2 (⟨z, hz, rfl, h2⟩ | ⟨hz, rfl, hk2⟩)
     ·have hw1 := HWD.out (by rw [hz]; simp)
      subst hw1
      have hk := HTK.out z hz
      have hf := HFX.out
      rw [hz] at hf
      have HF2 := hid_of hf
      have HC2 := hid_of h2
      have hz1 : mu z ≤ pos + 1 := by have := hk.2.1; omega
      have hz2 : z.un.length ≤ pos + 1 := by have := hk.2.2; omega
      have hokz := hk.1
      clear h2 hz hf hk HTK HFX HWD HNS c0 c1 c2 c3 f0 f1 f2 f3 hnext hok
      go_wp2
      go_roundw
      case rel => exact ⟨pos + 1, z, by omega, HC2, HF2, hokz, hz1, hz2⟩
      case measure =>
       have h1 : W2.iterPos ik = pos + 1 := by simp [World.iterPos, show W2.heap[ik]? = some (.stringIter s (pos + 1)) from HC2.out.it]
       rw [HMU.out, h1]
       omega
     ·have hf := HFX.out
      rw [hz] at hf
      have HN : Hid (cutV bs = none) := by
       show cutV bs = none
       unfold cutV
       rw [← hf]
      have HK2 := hid_of hk2
      clear hf hz hk2 HTK HFX HWD HNS c0 c1 c2 c3 f0 f1 f2 f3 hnext hok
      go_wp2
      go_ret2
      exact ⟨_, _, rfl, HK2.out, .inr ⟨rfl, HN.out⟩⟩
    ·have e59 : (r == 59) = false := by simp; exact hr59
     clear hr59
     go_wp2_with fail
     refine HT.out.mono ?_
     clear HT
     rintro e W2 (⟨z, hz, rfl, h2⟩ | ⟨hz, rfl, hk2⟩)
     ·have hw1 := HWD.out (by rw [hz]; simp)
      subst hw1
      have hk := HTK.out z hz
      have hf := HFX.out
      rw [hz] at hf
      have HF2 := hid_of hf
      have HC2 := hid_of h2
      have hz1 : mu z ≤ pos + 1 := by have := hk.2.1; omega
      have hz2 : z.un.length ≤ pos + 1 := by have := hk.2.2; omega
      have hokz := hk.1
      clear h2 hz hf hk HTK HFX HWD HNS c0 c1 c2 c3 f0 f1 f2 f3 hnext hok
      go_wp2
      go_roundw
      case rel => exact ⟨pos + 1, z, by omega, HC2, HF2, hokz, hz1, hz2⟩
      case measure =>
       have h1 : W2.iterPos ik = pos + 1 := by simp [World.iterPos, show W2.heap[ik]? = some (.stringIter s (pos + 1)) from HC2.out.it]
       rw [HMU.out, h1]
       omega
     ·have hf := HFX.out
      rw [hz] at hf
      have HN : Hid (cutV bs = none) := by
       show cutV bs = none
       unfold cutV
       rw [← hf]
      have HK2 := hid_of hk2
      clear hf hz hk2 HTK HFX HWD HNS c0 c1 c2 c3 f0 f1 f2 f3 hnext hok
      go_wp2
      go_ret2
      exact ⟨_, _, rfl, HK2.out, .inr ⟨rfl, HN.out⟩⟩
  ·have hnext : ∀ ty, (Instr.next (.pointer (some ⟨ik, 0, none⟩)) true ty).run Tryz.prog wr = _ := fun ty => Lib.run_next_end_at wr ik s pos ty hit hp
   have hf := HF.out
   rw [List.drop_of_length_le (show bs.length ≤ pos by omega), cutF] at hf
   have HFX := hid_of hf
   have HT := hid_of (endG c w wr y HC.out (HG.out.same HC.out.kept) (by omega) (by omega) hok.1 hok.2.1)
   clear hf hit HF HC
   go_wp2_with fail
   refine HT.out.mono ?_
   rintro e W2 ⟨z, rfl, h2, hz, hzl⟩
   have HV : Hid (endB y = true → cutV bs = some z.ps) := fun hb => by
    unfold cutV
    rw [← HFX.out]
    simp only
    rw [if_pos hb, hz hb]
   have HV2 : Hid (endB y = false → cutV bs = none) := fun hb => by
    unfold cutV
    rw [← HFX.out]
    simp only
    rw [if_neg (by rw [hb]; decide)]
   obtain ⟨pv2, uv2, hb2, hp2, hu2⟩ := h2.ex
   obtain ⟨k0, k1, k2, k3, _⟩ := look4 hb2
   have HP2 := hid_of hp2
   have HK2 := hid_of h2.kept
   obtain ⟨pa, pc, hpv⟩ := ownsRow_shape hp2
   subst hpv
   clear hb2 hp2 hu2 h2 hz hzl HT hnext hok hy1 hy2
   generalize endB y = eb at *
   go_wp2
   go_ret2
   refine ⟨_, eb, rfl, HK2.out, ?_⟩
   cases eb
   ·exact .inr ⟨rfl, HV2.out rfl⟩
   ·exact .inl ⟨rfl, z.ps, HV.out rfl, by rw [HCW.out]; exact HP2.out⟩
end Go.Proofs.YtpfmhibdmehlcaaGreatDoor

import Derived.Test.YtpfmhibdmehlcaaGreatDoorTOx7
import Derived.Test.YtpfmhibdmehlcaaGreatDoorTOx8
import Derived.Test.YtpfmhibdmehlcaaGreatDoorTOx10
import Derived.Shelf.Lay
import Derived.Shelf.Lays
import Derived.Shelf.Strings.Runes
import Derived.Shelf.Small.Utf8
import Derived.WalkMore
import Derived.Laws.RangeAny
import Derived.Deep.LoopGhost
import Derived.Lib.OthersKept
namespace Go.Proofs.YtpfmhibdmehlcaaGreatDoor
open Go.RowKit
set_option linter.unusedVariables false
set_option linter.unusedSimpArgs false
set_option maxRecDepth 100000
def isLP (r : Int) : Bool := decide ((97 ≤ r ∧ r ≤ 122) ∨ (65 ≤ r ∧ r ≤ 90) ∨ r = 95)
def isDP (r : Int) : Bool := decide (48 ≤ r ∧ r ≤ 57)
def goP (r : Int) : Bool := isLP r || isDP r
theorem letterG (r : Int) (w : World) : Calls Tryz.prog 121 #[.int .i32 r] w fun e w' => e = .returned (.bool (isLP r)) ∧ w' = w := by
 by_cases h1 : 97 ≤ r ∧ r ≤ 122
 ·have hL : isLP r = true := decide_eq_true (.inl h1)
  rw [hL]
  exact letter_yes r w h1.1 h1.2
 by_cases h2 : 65 ≤ r ∧ r ≤ 90
 ·have hL : isLP r = true := decide_eq_true (.inr (.inl h2))
  obtain ⟨h3, h4⟩ := h2
  have h5 : ¬ (97 ≤ r) := by omega
  rw [hL]
  go_enter Tryz.func121, Tryz.ntmps121
  go_wp2
  go_ret
  exact ⟨rfl, rfl⟩
 by_cases h3 : r = 95
 ·subst h3
  go_enter Tryz.func121, Tryz.ntmps121
  go_wp2
  go_ret
  exact ⟨rfl, rfl⟩
 ·have hL : isLP r = false := decide_eq_false (by omega)
  have h5 : (r == 95) = false := by simp; omega
  rw [hL]
  by_cases h6 : 97 ≤ r
  ·have h7 : ¬ r ≤ 122 := by omega
   have h8 : ¬ r ≤ 90 := by omega
   have h9 : (65 : Int) ≤ r := by omega
   clear hL h1 h2 h3
   go_enter Tryz.func121, Tryz.ntmps121
   go_wp2
   go_ret
   exact ⟨rfl, rfl⟩
  ·by_cases h7 : 65 ≤ r
   ·have h8 : ¬ r ≤ 90 := by omega
    clear hL h1 h2 h3
    go_enter Tryz.func121, Tryz.ntmps121
    go_wp2
    go_ret
    exact ⟨rfl, rfl⟩
   ·clear hL h1 h2 h3
    go_enter Tryz.func121, Tryz.ntmps121
    go_wp2
    go_ret
    exact ⟨rfl, rfl⟩
theorem digitG (r : Int) (w : World) : Calls Tryz.prog 122 #[.int .i32 r] w fun e w' => e = .returned (.bool (isDP r)) ∧ w' = w := by
 by_cases h1 : 48 ≤ r ∧ r ≤ 57
 ·have hL : isDP r = true := decide_eq_true h1
  rw [hL]
  exact digit_yes r w h1.1 h1.2
 ·have hL : isDP r = false := decide_eq_false h1
  rw [hL]
  clear hL
  by_cases h2 : 48 ≤ r
  ·have h3 : ¬ r ≤ 57 := by omega
   clear h1
   go_enter Tryz.func122, Tryz.ntmps122
   go_wp2
   go_ret
   exact ⟨rfl, rfl⟩
  ·clear h1
   go_enter Tryz.func122, Tryz.ntmps122
   go_wp2
   go_ret
   exact ⟨rfl, rfl⟩
theorem goesG (r : Int) (w : World) : Calls Tryz.prog 92 #[.int .i32 r] w fun e w' => e = .returned (.bool (goP r)) ∧ w' = w := by
 have hL := letterG r w
 have hD := digitG r w
 have hg : goP r = (isLP r || isDP r) := rfl
 rw [hg]
 generalize isLP r = bl at *
 generalize isDP r = bd at *
 clear hg
 have HL := hid_of hL
 have HD := hid_of hD
 clear hL hD
 cases bl
 ·go_enter Tryz.func92, Tryz.ntmps92
  go_wp2_with fail
  refine HL.out.mono ?_
  rintro e w1 ⟨rfl, hw⟩
  have hw := hw.symm
  subst hw
  go_wp2_with fail
  refine HD.out.mono ?_
  rintro e w2 ⟨rfl, hw⟩
  have hw := hw.symm
  subst hw
  go_wp2
  go_ret
  exact ⟨rfl, rfl⟩
 ·go_enter Tryz.func92, Tryz.ntmps92
  go_wp2_with fail
  refine HL.out.mono ?_
  rintro e w1 ⟨rfl, hw⟩
  have hw := hw.symm
  subst hw
  go_wp2
  go_ret
  exact ⟨rfl, rfl⟩
structure CS where
 ps : List Pf
 st : Int
 un : List Int
 hi : Int
abbrev CgS (I : Nat × ByteArray × Nat) (w wr : World) (c : Nat) (x : CS) : Prop := Cg I w wr c x.ps x.st x.un x.hi
def begP (x : CS) (r : Int) : Option CS :=
 if r = 9 ∨ r = 13 ∨ r = 32 then some ⟨x.ps, 0, x.un, x.hi⟩
 else if r = 58 then some ⟨x.ps ++ [⟨3, ⟨#[]⟩, 0, false⟩], 0, x.un, x.hi⟩
 else if x.st = 1 then none
 else if r = 34 then some ⟨x.ps, 4, x.un, x.hi⟩
 else if isLP r = true then some ⟨x.ps, 2, x.un ++ [r], x.hi⟩
 else if isDP r = true ∨ r = 45 then some ⟨x.ps, 3, x.un ++ [r], x.hi⟩
 else none
def withP (x : CS) (r : Int) : Option CS :=
 if r = 34 then some ⟨x.ps ++ [⟨2, str x.un, 0, false⟩], 1, [], x.hi⟩
 else if r = 92 then some ⟨x.ps, 5, x.un, x.hi⟩
 else if r < 32 ∨ 126 < r then none
 else some ⟨x.ps, x.st, x.un ++ [r], x.hi⟩
def escP (x : CS) (r : Int) : Option CS :=
 if r = 34 ∨ r = 92 then some ⟨x.ps, 4, x.un ++ [r], x.hi⟩
 else if r = 120 then some ⟨x.ps, 6, x.un, x.hi⟩
 else none
def StepR (I : Nat × ByteArray × Nat) (w wr : World) (c : Nat) (o : Option CS) (e : Ending) (w' : World) : Prop :=
 (∃ y, o = some y ∧ e = .returned (.bool true) ∧ CgS I w w' c y) ∨ (o = none ∧ e = .returned (.bool false) ∧ Kept (fun _ => False) w w')
theorem Cg.setSt {I : Nat × ByteArray × Nat} {w wr : World} {c : Nat} {ps : List Pf} {st : Int} {un : List Int} {hi : Int} (h : Cg I w wr c ps st un hi) : ∃ pv uv, wr.heap[c]? = some (.cells #[pv, .int .i64 st, uv, .int .i64 hi] 154 (0, 0)) := by
 obtain ⟨pv, uv, h1, _⟩ := h.ex
 exact ⟨pv, uv, h1⟩
variable {I : Nat × ByteArray × Nat}
set_option maxHeartbeats 8000000 in
theorem beginG (c : Nat) (r : Int) (w wr : World) (x : CS) (h : CgS I w wr c x) (h0 : 0 ≤ r) (hl : x.ps.length ≤ 90000) (hu : x.un.length ≤ 900000) :
  Calls Tryz.prog 94 #[.pointer (some ⟨c, 0, none⟩), .int .i32 r] wr (StepR I w wr c (begP x r)) := by
 obtain ⟨ps, st, un, hi⟩ := x
 simp only at h hl hu
 obtain ⟨pv, uv, hb⟩ := h.setSt
 have q1 := cell_block _ _ 1 _ _ _ hb
 have f1 := frozen_block _ _ 1 _ _ hb
 have HH := hid_of h
 have HBB := hid_of hb
 clear hb h
 by_cases h1 : r = 9 ∨ r = 13 ∨ r = 32
 ·have HE : Hid (begP ⟨ps, st, un, hi⟩ r = some ⟨ps, 0, un, hi⟩) := if_pos h1
  have HS := hid_of (HH.out.setS 0)
  generalize begP ⟨ps, st, un, hi⟩ r = o at *
  rcases h1 with rfl | rfl | rfl
  ·go_enter Tryz.func94, Tryz.ntmps94
   go_wp2
   go_ret
   exact .inl ⟨_, HE.out, rfl, HS.out⟩
  ·go_enter Tryz.func94, Tryz.ntmps94
   go_wp2
   go_ret
   exact .inl ⟨_, HE.out, rfl, HS.out⟩
  ·go_enter Tryz.func94, Tryz.ntmps94
   go_wp2
   go_ret
   exact .inl ⟨_, HE.out, rfl, HS.out⟩
 have n1 : r ≠ 9 ∧ r ≠ 13 ∧ r ≠ 32 := by omega
 have e9 : (r == 9) = false := by simp; omega
 have e13 : (r == 13) = false := by simp; omega
 have e32 : (r == 32) = false := by simp; omega
 by_cases h2 : r = 58
 ·have HE : Hid (begP ⟨ps, st, un, hi⟩ r = some ⟨ps ++ [⟨3, ⟨#[]⟩, 0, false⟩], 0, un, hi⟩) := by show begP _ _ = _; unfold begP; rw [if_neg h1, if_pos h2]
  generalize begP ⟨ps, st, un, hi⟩ r = o at *
  subst h2
  obtain ⟨pv, uv, hb0, hp0, hu0⟩ := HH.out.ex
  obtain ⟨v', w5, hr, ho, hk0, hk1, hn⟩ := push_piece hp0 (.int .i64 3) (.string ⟨#[]⟩) (.int .i64 0) (.bool false) rfl rfl rfl rfl HH.out.kept hl
  have hb5 := box_kept hk1 hb0 (fun e => own_box2 hp0 hb0 (by decide) e)
  have hs := kept_set w5 c 0 v'
  have hb6 := set_block _ _ 0 _ _ _ hb5 v'
  have hs2 := kept_set (w5.setCell ⟨c, 0, none⟩ v') c 1 (.int .i64 0)
  have hb7 := set_block _ _ 1 _ _ _ hb6 (.int .i64 0)
  have hss := hs.trans hs2
  have hu5 := hk1.ownsRow hu0 (fun q hq e => own_two hu0 hp0 (by decide) q hq e)
  have HS : Hid (CgS I w ((w5.setCell ⟨c, 0, none⟩ v').setCell ⟨c, 1, none⟩ (.int .i64 0)) c ⟨ps ++ [⟨3, ⟨#[]⟩, 0, false⟩], 0, un, hi⟩) := by
   refine ⟨⟨_, _, hb7, ?_, hss.ownsRow hu5 (fun q hq e => own_box2 hu5 hb5 (by decide) (by rw [hq, e]))⟩, (hk0.setCell (.inl HH.out.lo) _).setCell (.inl HH.out.lo) _, HH.out.lo, box_kept hss (box_kept hk1 HH.out.it (own_iter hp0 HH.out.it)) (box_iter hb5 (box_kept hk1 HH.out.it (own_iter hp0 HH.out.it))), HH.out.ilo⟩
   simp only [List.length_append, List.length_cons, List.length_nil, fcells_snoc]
   exact hss.ownsRow ho (fun q hq e => own_box2 ho hb5 (by decide) (by rw [hq, e]))
  obtain ⟨a1, c1, hv1⟩ := ownsRow_shape hp0
  obtain ⟨n1', hn1⟩ := nmd (ps.length)
  rw [← hn1] at hv1
  subst hv1
  obtain ⟨a2, c2, hv2⟩ := ownsRow_shape ho
  obtain ⟨n2', hn2⟩ := nmd (ps.length + 1)
  rw [← hn2] at hv2
  subst hv2
  have z0 := cell_block _ _ 0 _ _ _ hb0
  have z1 := cell_block _ _ 0 _ _ _ hb5
  have zf := frozen_block _ _ 0 _ _ hb5
  have z2 := cell_block _ _ 1 _ _ _ hb6
  have zf2 := frozen_block _ _ 1 _ _ hb6
  have HR := hid_of hr
  clear hr ho hk0 hk1 hn hb0 hp0 hu0 hb5 hb6 hb7 hs hs2 hss hu5 hn1 hn2 hl hu q1 f1
  go_enter Tryz.func94, Tryz.ntmps94
  go_wp2_with (at_builtin; refine wp_app2 rfl (.tmp 26) (.tmp 28) 118 118 rfl _ _ rfl rfl _ w5 HR.out ?_)
  go_ret
  exact .inl ⟨_, HE.out, rfl, HS.out⟩
 have e58 : (r == 58) = false := by simp; omega
 by_cases h3 : st = 1
 ·have HE : Hid (begP ⟨ps, st, un, hi⟩ r = none) := by show begP _ _ = _; unfold begP; rw [if_neg h1, if_neg h2, if_pos h3]
  generalize begP ⟨ps, st, un, hi⟩ r = o at *
  subst h3
  clear h1 h2 n1
  go_enter Tryz.func94, Tryz.ntmps94
  go_wp2
  go_ret
  exact .inr ⟨HE.out, rfl, HH.out.kept⟩
 have es1 : (st == 1) = false := by simp; omega
 by_cases h4 : r = 34
 ·have HE : Hid (begP ⟨ps, st, un, hi⟩ r = some ⟨ps, 4, un, hi⟩) := by show begP _ _ = _; unfold begP; rw [if_neg h1, if_neg h2, if_neg h3, if_pos h4]
  have HS := hid_of (HH.out.setS 4)
  generalize begP ⟨ps, st, un, hi⟩ r = o at *
  subst h4
  clear h1 h2 n1 h3 e9 e13 e32 e58
  go_enter Tryz.func94, Tryz.ntmps94
  go_wp2
  go_ret
  exact .inl ⟨_, HE.out, rfl, HS.out⟩
 have e34 : (r == 34) = false := by simp; omega
 have hLE := letterG r wr
 by_cases h5 : isLP r = true
 ·have HE : Hid (begP ⟨ps, st, un, hi⟩ r = some ⟨ps, 2, un ++ [r], hi⟩) := by show begP _ _ = _; unfold begP; rw [if_neg h1, if_neg h2, if_neg h3, if_neg h4, if_pos h5]
  have hr2 : r < 256 := by have := of_decide_eq_true h5; omega
  have HGR := hid_of (growG c r w _ ps 2 un hi (HH.out.setS 2) h0 hr2 hu)
  rw [h5] at hLE
  have HLE := hid_of hLE
  generalize begP ⟨ps, st, un, hi⟩ r = o at *
  clear h1 h2 n1 h3 h4 h5 hLE hr2
  go_enter Tryz.func94, Tryz.ntmps94
  go_wp2_with fail
  refine HLE.out.mono ?_
  rintro e w1 ⟨rfl, hw⟩
  have hw := hw.symm
  subst hw
  go_wp2_with fail
  refine HGR.out.mono ?_
  rintro e w2 ⟨⟨v, rfl⟩, hc2⟩
  have HS := hid_of hc2
  clear hc2 HGR HLE
  go_wp2
  go_ret
  exact .inl ⟨_, HE.out, rfl, HS.out⟩
 have h5f : isLP r = false := by simpa using h5
 rw [h5f] at hLE
 have HLE := hid_of hLE
 have hDI := digitG r wr
 clear hLE
 by_cases h6 : isDP r = true
 ·have HE : Hid (begP ⟨ps, st, un, hi⟩ r = some ⟨ps, 3, un ++ [r], hi⟩) := by show begP _ _ = _; unfold begP; rw [if_neg h1, if_neg h2, if_neg h3, if_neg h4, if_neg h5, if_pos (.inl h6)]
  have hr2 : r < 256 := by have := of_decide_eq_true h6; omega
  have HGR := hid_of (growG c r w _ ps 3 un hi (HH.out.setS 3) h0 hr2 hu)
  rw [h6] at hDI
  have HDI := hid_of hDI
  generalize begP ⟨ps, st, un, hi⟩ r = o at *
  clear h1 h2 n1 h3 h4 h5 h5f h6 hDI hr2
  go_enter Tryz.func94, Tryz.ntmps94
  go_wp2_with fail
  refine HLE.out.mono ?_
  rintro e w1 ⟨rfl, hw⟩
  have hw := hw.symm
  subst hw
  go_wp2_with fail
  refine HDI.out.mono ?_
  rintro e w1 ⟨rfl, hw⟩
  have hw := hw.symm
  subst hw
  go_wp2_with fail
  refine HGR.out.mono ?_
  rintro e w2 ⟨⟨v, rfl⟩, hc2⟩
  have HS := hid_of hc2
  clear hc2 HGR HLE HDI
  go_wp2
  go_ret
  exact .inl ⟨_, HE.out, rfl, HS.out⟩
 have h6f : isDP r = false := by simpa using h6
 rw [h6f] at hDI
 have HDI := hid_of hDI
 clear hDI
 by_cases h7 : r = 45
 ·have HE : Hid (begP ⟨ps, st, un, hi⟩ r = some ⟨ps, 3, un ++ [r], hi⟩) := by show begP _ _ = _; unfold begP; rw [if_neg h1, if_neg h2, if_neg h3, if_neg h4, if_neg h5, if_pos (.inr h7)]
  have HGR := hid_of (growG c r w _ ps 3 un hi (HH.out.setS 3) h0 (by omega) hu)
  generalize begP ⟨ps, st, un, hi⟩ r = o at *
  subst h7
  clear h1 h2 n1 h3 h4 h5 h5f h6 h6f e9 e13 e32 e58 e34
  go_enter Tryz.func94, Tryz.ntmps94
  go_wp2_with fail
  refine HLE.out.mono ?_
  rintro e w1 ⟨rfl, hw⟩
  have hw := hw.symm
  subst hw
  go_wp2_with fail
  refine HDI.out.mono ?_
  rintro e w1 ⟨rfl, hw⟩
  have hw := hw.symm
  subst hw
  go_wp2_with fail
  refine HGR.out.mono ?_
  rintro e w2 ⟨⟨v, rfl⟩, hc2⟩
  have HS := hid_of hc2
  clear hc2 HGR HLE HDI
  go_wp2
  go_ret
  exact .inl ⟨_, HE.out, rfl, HS.out⟩
 ·have HE : Hid (begP ⟨ps, st, un, hi⟩ r = none) := by show begP _ _ = _; unfold begP; rw [if_neg h1, if_neg h2, if_neg h3, if_neg h4, if_neg h5, if_neg (by rw [h6f]; simpa using h7)]
  have e45 : (r == 45) = false := by simp; omega
  generalize begP ⟨ps, st, un, hi⟩ r = o at *
  clear h1 h2 n1 h3 h4 h5 h5f h6 h6f h7
  go_enter Tryz.func94, Tryz.ntmps94
  go_wp2_with fail
  refine HLE.out.mono ?_
  rintro e w1 ⟨rfl, hw⟩
  have hw := hw.symm
  subst hw
  go_wp2_with fail
  refine HDI.out.mono ?_
  rintro e w1 ⟨rfl, hw⟩
  have hw := hw.symm
  subst hw
  go_wp2
  go_ret
  exact .inr ⟨HE.out, rfl, HH.out.kept⟩
end Go.Proofs.YtpfmhibdmehlcaaGreatDoor
namespace Go.Proofs.YtpfmhibdmehlcaaGreatDoor
open Go.RowKit
set_option linter.unusedVariables false
set_option linter.unusedSimpArgs false
set_option maxRecDepth 100000
variable {I : Nat × ByteArray × Nat}
set_option maxHeartbeats 8000000 in
theorem withinG (c : Nat) (r : Int) (w wr : World) (x : CS) (h : CgS I w wr c x) (h0 : 0 ≤ r) (hl : x.ps.length ≤ 90000) (hu : x.un.length ≤ 900000) :
  Calls Tryz.prog 95 #[.pointer (some ⟨c, 0, none⟩), .int .i32 r] wr (StepR I w wr c (withP x r)) := by
 obtain ⟨ps, st, un, hi⟩ := x
 simp only at h hl hu
 have HH := hid_of h
 by_cases h1 : r = 34
 ·have HE : Hid (withP ⟨ps, st, un, hi⟩ r = some ⟨ps ++ [⟨2, str un, 0, false⟩], 1, [], hi⟩) := if_pos h1
  generalize withP ⟨ps, st, un, hi⟩ r = o at *
  subst h1
  obtain ⟨pv, uv, hb0, hp0, hu0⟩ := h.ex
  have q2 := cell_block _ _ 2 _ _ _ hb0
  have hcv := conv_str wr uv un (isB_own hu0)
  have HCL := hid_of (closeG c 2 (str un) 0 false w wr ps st un hi h hl)
  obtain ⟨a1, c1, hv1⟩ := ownsRow_shape hu0
  obtain ⟨n1, hn1⟩ := nmd (un.length)
  rw [← hn1] at hv1
  subst hv1
  generalize str un = su at *
  clear h hl hu hb0 hp0 hu0 hn1
  go_enter Tryz.func95, Tryz.ntmps95
  go_wp2_with fail
  refine HCL.out.mono ?_
  rintro e w2 ⟨⟨v, rfl⟩, hc2⟩
  have HS := hid_of hc2
  clear hc2 HCL hcv q2
  go_wp2
  go_ret
  exact .inl ⟨_, HE.out, rfl, HS.out⟩
 have e34 : (r == 34) = false := by simp; omega
 by_cases h2 : r = 92
 ·have HE : Hid (withP ⟨ps, st, un, hi⟩ r = some ⟨ps, 5, un, hi⟩) := by show withP _ _ = _; unfold withP; rw [if_neg h1, if_pos h2]
  have HS := hid_of (h.setS 5)
  generalize withP ⟨ps, st, un, hi⟩ r = o at *
  subst h2
  obtain ⟨pv, uv, hb0, _⟩ := h.ex
  have q1 := cell_block _ _ 1 _ _ _ hb0
  have f1 := frozen_block _ _ 1 _ _ hb0
  clear h hl hu hb0 h1 e34
  go_enter Tryz.func95, Tryz.ntmps95
  go_wp2
  go_ret
  exact .inl ⟨_, HE.out, rfl, HS.out⟩
 have e92 : (r == 92) = false := by simp; omega
 by_cases h3 : r < 32
 ·have HE : Hid (withP ⟨ps, st, un, hi⟩ r = none) := by show withP _ _ = _; unfold withP; rw [if_neg h1, if_neg h2, if_pos (.inl h3)]
  generalize withP ⟨ps, st, un, hi⟩ r = o at *
  clear h hl hu h1 h2
  go_enter Tryz.func95, Tryz.ntmps95
  go_wp2
  go_ret
  exact .inr ⟨HE.out, rfl, HH.out.kept⟩
 by_cases h4 : 126 < r
 ·have HE : Hid (withP ⟨ps, st, un, hi⟩ r = none) := by show withP _ _ = _; unfold withP; rw [if_neg h1, if_neg h2, if_pos (.inr h4)]
  generalize withP ⟨ps, st, un, hi⟩ r = o at *
  clear h hl hu h1 h2
  go_enter Tryz.func95, Tryz.ntmps95
  go_wp2
  go_ret
  exact .inr ⟨HE.out, rfl, HH.out.kept⟩
 ·have HE : Hid (withP ⟨ps, st, un, hi⟩ r = some ⟨ps, st, un ++ [r], hi⟩) := by show withP _ _ = _; unfold withP; rw [if_neg h1, if_neg h2, if_neg (by omega)]
  have HGR := hid_of (growG c r w wr ps st un hi h h0 (by omega) hu)
  generalize withP ⟨ps, st, un, hi⟩ r = o at *
  clear h hl hu h1 h2
  go_enter Tryz.func95, Tryz.ntmps95
  go_wp2_with fail
  refine HGR.out.mono ?_
  rintro e w2 ⟨⟨v, rfl⟩, hc2⟩
  have HS := hid_of hc2
  clear hc2 HGR
  go_wp2
  go_ret
  exact .inl ⟨_, HE.out, rfl, HS.out⟩
set_option maxHeartbeats 8000000 in
theorem escapedG (c : Nat) (r : Int) (w wr : World) (x : CS) (h : CgS I w wr c x) (h0 : 0 ≤ r) (hl : x.ps.length ≤ 90000) (hu : x.un.length ≤ 900000) :
  Calls Tryz.prog 96 #[.pointer (some ⟨c, 0, none⟩), .int .i32 r] wr (StepR I w wr c (escP x r)) := by
 obtain ⟨ps, st, un, hi⟩ := x
 simp only at h hl hu
 have HH := hid_of h
 by_cases h1 : r = 34 ∨ r = 92
 ·have HE : Hid (escP ⟨ps, st, un, hi⟩ r = some ⟨ps, 4, un ++ [r], hi⟩) := if_pos h1
  have HGR := hid_of (growG c r w wr ps st un hi h h0 (by omega) hu)
  generalize escP ⟨ps, st, un, hi⟩ r = o at *
  clear h hl hu
  rcases h1 with rfl | rfl
  ·go_enter Tryz.func96, Tryz.ntmps96
   go_wp2_with fail
   refine HGR.out.mono ?_
   rintro e w2 ⟨⟨v, rfl⟩, hc2⟩
   have HS := hid_of (hc2.setS 4)
   obtain ⟨pv, uv, hb0, _⟩ := hc2.ex
   have q1 := cell_block _ _ 1 _ _ _ hb0
   have f1 := frozen_block _ _ 1 _ _ hb0
   clear hc2 HGR hb0
   go_wp2
   go_ret
   exact .inl ⟨_, HE.out, rfl, HS.out⟩
  ·go_enter Tryz.func96, Tryz.ntmps96
   go_wp2_with fail
   refine HGR.out.mono ?_
   rintro e w2 ⟨⟨v, rfl⟩, hc2⟩
   have HS := hid_of (hc2.setS 4)
   obtain ⟨pv, uv, hb0, _⟩ := hc2.ex
   have q1 := cell_block _ _ 1 _ _ _ hb0
   have f1 := frozen_block _ _ 1 _ _ hb0
   clear hc2 HGR hb0
   go_wp2
   go_ret
   exact .inl ⟨_, HE.out, rfl, HS.out⟩
 have e34 : (r == 34) = false := by simp; omega
 have e92 : (r == 92) = false := by simp; omega
 by_cases h2 : r = 120
 ·have HE : Hid (escP ⟨ps, st, un, hi⟩ r = some ⟨ps, 6, un, hi⟩) := by show escP _ _ = _; unfold escP; rw [if_neg h1, if_pos h2]
  have HS := hid_of (h.setS 6)
  generalize escP ⟨ps, st, un, hi⟩ r = o at *
  subst h2
  obtain ⟨pv, uv, hb0, _⟩ := h.ex
  have q1 := cell_block _ _ 1 _ _ _ hb0
  have f1 := frozen_block _ _ 1 _ _ hb0
  clear h hl hu hb0 h1 e34 e92
  go_enter Tryz.func96, Tryz.ntmps96
  go_wp2
  go_ret
  exact .inl ⟨_, HE.out, rfl, HS.out⟩
 ·have HE : Hid (escP ⟨ps, st, un, hi⟩ r = none) := by show escP _ _ = _; unfold escP; rw [if_neg h1, if_neg h2]
  have e120 : (r == 120) = false := by simp; omega
  generalize escP ⟨ps, st, un, hi⟩ r = o at *
  clear h hl hu h1 h2
  go_enter Tryz.func96, Tryz.ntmps96
  go_wp2
  go_ret
  exact .inr ⟨HE.out, rfl, HH.out.kept⟩
end Go.Proofs.YtpfmhibdmehlcaaGreatDoor
namespace Go.Proofs
open Go.Shelf
shelf_lay Lays.n119 Nm 119 at Tryz as Tryz.lays119
shelf_lay Lays.n152 Nm 152 at Tryz as Tryz.lays152
shelf_lay Lays.n137 Nm 137 at Tryz as Tryz.lays137
end Go.Proofs
namespace Go.Proofs.YtpfmhibdmehlcaaGreatDoor
open Go.RowKit Go.Shelf
set_option linter.unusedVariables false
set_option linter.unusedSimpArgs false
set_option maxRecDepth 100000
def hexP (r : Int) : Int := if 48 ≤ r ∧ r ≤ 57 then r - 48 else if 97 ≤ r ∧ r ≤ 102 then r - 87 else -1
theorem hex_ascii : ∀ n : Nat, n < 128 → (Lib.indexByte hexS.data.toList n.toUInt8 : Int) = hexP n := by decide
theorem hex_rest2 (c : UInt8) (hc : 128 ≤ c.toNat) : (Lib.indexByte [50, 51, 52, 53, 54, 55, 56, 57, 97, 98, 99, 100, 101, 102] c : Int) = -1 := by
 have h : ∀ n : Nat, n < 256 → 128 ≤ n → (Lib.indexByte [50, 51, 52, 53, 54, 55, 56, 57, 97, 98, 99, 100, 101, 102] n.toUInt8 : Int) = -1 := by decide +kernel
 have e := h c.toNat (UInt8.toNat_lt c) hc
 rwa [show c.toNat.toUInt8 = c by simp] at e
theorem hex_rest3 (c : UInt8) (hc : 128 ≤ c.toNat) : (Lib.indexByte [51, 52, 53, 54, 55, 56, 57, 97, 98, 99, 100, 101, 102] c : Int) = -1 := by
 have h : ∀ n : Nat, n < 256 → 128 ≤ n → (Lib.indexByte [51, 52, 53, 54, 55, 56, 57, 97, 98, 99, 100, 101, 102] n.toUInt8 : Int) = -1 := by decide +kernel
 have e := h c.toNat (UInt8.toNat_lt c) hc
 rwa [show c.toNat.toUInt8 = c by simp] at e
theorem hex_rest4 (c : UInt8) (hc : 128 ≤ c.toNat) : (Lib.indexByte [52, 53, 54, 55, 56, 57, 97, 98, 99, 100, 101, 102] c : Int) = -1 := by
 have h : ∀ n : Nat, n < 256 → 128 ≤ n → (Lib.indexByte [52, 53, 54, 55, 56, 57, 97, 98, 99, 100, 101, 102] n.toUInt8 : Int) = -1 := by decide +kernel
 have e := h c.toNat (UInt8.toNat_lt c) hc
 rwa [show c.toNat.toUInt8 = c by simp] at e
theorem enc_high (r : Nat) (h1 : 128 ≤ r) : (∃ b c : UInt8, Utf8.encode (r : Int) = ⟨#[b, c]⟩ ∧ 128 ≤ c.toNat) ∨ (∃ b c d : UInt8, Utf8.encode (r : Int) = ⟨#[b, c, d]⟩ ∧ 128 ≤ d.toNat) ∨ (∃ b c d e : UInt8, Utf8.encode (r : Int) = ⟨#[b, c, d, e]⟩ ∧ 128 ≤ e.toNat) := by
 have key : ∀ c : Nat, 128 ≤ c → (if c < 0x80 then (⟨#[UInt8.ofNat c]⟩ : ByteArray) else if c < 0x800 then ⟨#[UInt8.ofNat (0xC0 + c / 64), UInt8.ofNat (0x80 + c % 64)]⟩ else if c < 0x10000 then ⟨#[UInt8.ofNat (0xE0 + c / 4096), UInt8.ofNat (0x80 + c / 64 % 64), UInt8.ofNat (0x80 + c % 64)]⟩ else ⟨#[UInt8.ofNat (0xF0 + c / 262144), UInt8.ofNat (0x80 + c / 4096 % 64), UInt8.ofNat (0x80 + c / 64 % 64), UInt8.ofNat (0x80 + c % 64)]⟩) = Utf8.encode (r : Int) → (∃ b c : UInt8, Utf8.encode (r : Int) = ⟨#[b, c]⟩ ∧ 128 ≤ c.toNat) ∨ (∃ b c d : UInt8, Utf8.encode (r : Int) = ⟨#[b, c, d]⟩ ∧ 128 ≤ d.toNat) ∨ (∃ b c d e : UInt8, Utf8.encode (r : Int) = ⟨#[b, c, d, e]⟩ ∧ 128 ≤ e.toNat) := by
  intro c hc h
  rw [if_neg (by omega)] at h
  split at h
  ·refine .inl ⟨_, _, h.symm, ?_⟩
   rw [UInt8.toNat_ofNat']
   omega
  ·split at h
   ·refine .inr (.inl ⟨_, _, _, h.symm, ?_⟩)
    rw [UInt8.toNat_ofNat']
    omega
   ·refine .inr (.inr ⟨_, _, _, _, h.symm, ?_⟩)
    rw [UInt8.toNat_ofNat']
    omega
 by_cases hv : Utf8.valid (r : Int) = true
 ·refine key r h1 ?_
  simp [Utf8.encode, hv]
 ·refine key Utf8.runeError (by decide) ?_
  simp [Utf8.encode, hv]
set_option maxRecDepth 1000000 in
set_option maxHeartbeats 2000000 in
theorem irune_bad (r : Nat) (h1 : 128 ≤ r) (h2 : r ≠ 65533) (hv : Lib.validRune (r : Int) = false) (w : World) :
  Calls Tryz.prog 123 #[.string hexS, .int .i32 r] w fun e w' => e = .returned (.int .i64 (-1)) ∧ Kept (fun _ => False) w w' := by
 have HV := hid_of (fun w => Any.utf8_ValidRune Tryz.lays119 (r : Int) w)
 rw [hv] at HV
 have e1 : ((r : Int) == 65533) = false := by rw [beq_eq_false_iff_ne]; omega
 go_enter Tryz.func123, Tryz.ntmps123
 go_wp2_with fail
 refine (HV.out _).mono ?_
 rintro e w1 ⟨rfl, rfl⟩
 clear HV
 go_wp2
 go_ret
 exact ⟨rfl, Kept.refl _ _⟩
theorem body_end136 {R : Ending → World → Prop} {a : Act} {w : World} (hd : a.defers = []) (h : R (.returned (a.tmps.getD 4 undef)) w) : bodyPost Tryz.prog Tryz.f123 R .ret a w :=
 bodyPost_ret (results_tmp rfl _ _ _) hd h
end Go.Proofs.YtpfmhibdmehlcaaGreatDoor
namespace Go.Proofs.YtpfmhibdmehlcaaGreatDoor
open Go.RowKit Go.Shelf
set_option linter.unusedVariables false
set_option linter.unusedSimpArgs false
set_option maxRecDepth 100000
set_option maxRecDepth 1000000 in
set_option maxHeartbeats 2000000 in
theorem irune_two (r : Nat) (h1 : 128 ≤ r) (h2 : r ≠ 65533) (hv : Lib.validRune (r : Int) = true) (b c : UInt8) (hE : Utf8.encode (r : Int) = ⟨#[b, c]⟩) (hc : 128 ≤ c.toNat) (w : World) :
  Calls Tryz.prog 123 #[.string hexS, .int .i32 r] w fun e w' => e = .returned (.int .i64 (-1)) ∧ Kept (fun _ => False) w w' := by
 have HV := hid_of (fun w => Any.utf8_ValidRune Tryz.lays119 (r : Int) w)
 rw [hv] at HV
 have HI : Hid (∀ w, Calls Tryz.prog 152 #[.string ⟨#[50, 51, 52, 53, 54, 55, 56, 57, 97, 98, 99, 100, 101, 102]⟩, .int .u8 c.toNat] w fun e w' => e = .returned (.int .i64 (-1)) ∧ w' = w) := fun w => by
  have h := Any.strings_IndexByte Tryz.lays137 ⟨#[50, 51, 52, 53, 54, 55, 56, 57, 97, 98, 99, 100, 101, 102]⟩ (c.toNat : Int) w
  have e := hex_rest2 c hc
  simp only [Int.toNat_natCast] at h
  rw [show (c.toNat.toUInt8) = c by simp] at h
  rw [show (Lib.indexByte (ByteArray.mk #[50, 51, 52, 53, 54, 55, 56, 57, 97, 98, 99, 100, 101, 102]).data.toList c : Int) = -1 from e] at h
  exact h
 have e1 : ((r : Int) == 65533) = false := by rw [beq_eq_false_iff_ne]; omega
 have e2 : ((49 : Int) == (c.toNat : Int)) = false := by rw [beq_eq_false_iff_ne]; omega
 have g1 : (hexS[1]'(by decide)) = (49 : UInt8) := rfl
 have g2 : ((⟨#[b, c]⟩ : ByteArray)[1]'(show 1 < 2 by omega)) = c := rfl
 clear hv hc
 go_enter Tryz.func123, Tryz.ntmps123
 go_wp2_with fail
 refine (HV.out _).mono ?_
 rintro e w1 ⟨rfl, rfl⟩
 clear HV
 go_wp2
 refine wp_scope_straight ?_
 go_wp2
 go_loopw [9] (fun i wr => i = .int .i64 1 ∧ wr = w1) (fun _ _ => 0)
 case atStart => exact ⟨rfl, rfl⟩
 case round =>
  obtain ⟨rfl, rfl⟩ := hrel
  go_wp2
  refine wp_scope_straight ?_
  go_wp2
  go_quiet (fail)
  go_wp2
  go_quiet (first | (go_at_call 152; exact (HI.out _).mono (fun _ _ h => ⟨h.1, _, h.2⟩)))
  go_wp2
  repeat rw [Exit.noGoto_ret]
  refine body_end136 (R := fun e w' => e = .returned (.int .i64 (-1)) ∧ Kept (fun _ => False) wr w') rfl ?_
  exact ⟨rfl, by first | exact kept_drewN (Kept.refl _ _) _ | exact kept_drewN (kept_drewN (Kept.refl _ _) _) _⟩
set_option maxRecDepth 1000000 in
set_option maxHeartbeats 2000000 in
theorem irune_three (r : Nat) (h1 : 128 ≤ r) (h2 : r ≠ 65533) (hv : Lib.validRune (r : Int) = true) (b c d : UInt8) (hE : Utf8.encode (r : Int) = ⟨#[b, c, d]⟩) (hc : 128 ≤ d.toNat) (w : World) :
  Calls Tryz.prog 123 #[.string hexS, .int .i32 r] w fun e w' => e = .returned (.int .i64 (-1)) ∧ Kept (fun _ => False) w w' := by
 have HV := hid_of (fun w => Any.utf8_ValidRune Tryz.lays119 (r : Int) w)
 rw [hv] at HV
 have HI : Hid (∀ w, Calls Tryz.prog 152 #[.string ⟨#[51, 52, 53, 54, 55, 56, 57, 97, 98, 99, 100, 101, 102]⟩, .int .u8 d.toNat] w fun e w' => e = .returned (.int .i64 (-1)) ∧ w' = w) := fun w => by
  have h := Any.strings_IndexByte Tryz.lays137 ⟨#[51, 52, 53, 54, 55, 56, 57, 97, 98, 99, 100, 101, 102]⟩ (d.toNat : Int) w
  have e := hex_rest3 d hc
  simp only [Int.toNat_natCast] at h
  rw [show (d.toNat.toUInt8) = d by simp] at h
  rw [show (Lib.indexByte (ByteArray.mk #[51, 52, 53, 54, 55, 56, 57, 97, 98, 99, 100, 101, 102]).data.toList d : Int) = -1 from e] at h
  exact h
 have e1 : ((r : Int) == 65533) = false := by rw [beq_eq_false_iff_ne]; omega
 have e2 : ((50 : Int) == (d.toNat : Int)) = false := by rw [beq_eq_false_iff_ne]; omega
 have g1 : (hexS[2]'(by decide)) = (50 : UInt8) := rfl
 have g2 : ((⟨#[b, c, d]⟩ : ByteArray)[2]'(show 2 < 3 by omega)) = d := rfl
 clear hv hc
 go_enter Tryz.func123, Tryz.ntmps123
 go_wp2_with fail
 refine (HV.out _).mono ?_
 rintro e w1 ⟨rfl, rfl⟩
 clear HV
 go_wp2
 refine wp_scope_straight ?_
 go_wp2
 go_loopw [9] (fun i wr => i = .int .i64 2 ∧ wr = w1) (fun _ _ => 0)
 case atStart => exact ⟨rfl, rfl⟩
 case round =>
  obtain ⟨rfl, rfl⟩ := hrel
  go_wp2
  refine wp_scope_straight ?_
  go_wp2
  go_quiet (fail)
  go_wp2
  go_quiet (first | (go_at_call 152; exact (HI.out _).mono (fun _ _ h => ⟨h.1, _, h.2⟩)))
  go_wp2
  repeat rw [Exit.noGoto_ret]
  refine body_end136 (R := fun e w' => e = .returned (.int .i64 (-1)) ∧ Kept (fun _ => False) wr w') rfl ?_
  exact ⟨rfl, by first | exact kept_drewN (Kept.refl _ _) _ | exact kept_drewN (kept_drewN (Kept.refl _ _) _) _⟩
end Go.Proofs.YtpfmhibdmehlcaaGreatDoor

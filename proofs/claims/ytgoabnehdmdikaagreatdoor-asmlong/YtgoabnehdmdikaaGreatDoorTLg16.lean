import Derived.Test.YtgoabnehdmdikaaGreatDoorTLg15
import Derived.Test.YtgoabnehdmdikaaGreatDoorTLg6
import Derived.Test.YtgoabnehdmdikaaGreatDoorTLg10
set_option linter.unusedVariables false
set_option linter.unusedSimpArgs false
set_option maxRecDepth 100000
set_option maxHeartbeats 64000000
namespace Go.Proofs.YtgoabnehdmdikaaGreatDoor
open Go.RowKit
variable {w0 w : World} {r gm : Nat} {R : Rdr} {NL : List (ByteArray × Int)} {dv fv lv wv : Value} {CV : List Value} {GM : List Nat}
theorem Zfk : ∀ (ls : List ByteArray) (f g : Fnc), Xu f ls = some g → g.code = f.code
 | [], f, g, h => by cases h; rfl
 | s :: ss, f, g, h => by
  rw [Xu] at h
  by_cases hs : (lkA f.ls s).isSome = true
  ·rw [if_pos hs] at h
   cases h
  ·rw [if_neg hs] at h
   exact Zfk ss ⟨f.nm, f.a, f.l, f.r, f.ls ++ [(s, (f.code.length : Int))], f.code⟩ g h
theorem RdG.begun (h : RdG w0 w r R) (hl : R.fs.length ≤ 90000) : Calls Tryz.prog 83 #[.pointer (some ⟨r, 0, none⟩)] w fun e w' => e = .returned (.bool (decide (R.fs ≠ []))) ∧ w' = w := by
 obtain ⟨_, _, _, _, _, _, _, hX⟩ := h
 exact Zjs hX.toRdZ hl
theorem RdG.kept (h : RdG w0 w r R) : Kept nF w0 w := by
 obtain ⟨_, _, _, _, _, _, _, hX⟩ := h
 exact hX.kept
theorem Zod (ln : Int) (v l : Value) (h : RdG w0 w r R) (hf : R.fs = []) : Calls Tryz.prog 54 #[.pointer (some ⟨r, 0, none⟩), .int .i64 ln, v, l] w (MethR w0 w r (.bad 141)) := by
 have hb := h.begun (by rw [hf]; simp)
 rw [decide_eq_false (by simpa using hf)] at hb
 have HB := Za hb
 have HK := Za h.kept
 clear h hf hb
 go_enter Tryz.func54, Tryz.ntmps54
 go_wp2_with fail
 refine HB.out.mono ?_
 rintro e w1 ⟨rfl, hw⟩
 have hw := hw.symm
 subst hw
 go_wp2
 go_ret
 exact ⟨HK.out, .inr ⟨_, rfl, rfl⟩⟩
theorem Zq6 (g o n c : Nat) (ps : List Pf) (w : World) (hP : FsAt w g o ps) (hn : n = ps.length) (hc : n ≤ c) (hnl : n ≤ 90000) : Calls Tryz.prog 84 #[.slice (some ⟨g, o, none⟩) n c] w (Zq4 (Zar ps) w) := by
 cases ps with
 | nil =>
  have h0 : n = 0 := hn
  subst h0
  exact Zoa (some ⟨g, o, none⟩) c w
 | cons p l => exact Zju g o n c p l w hP hn hc hnl
theorem Zwz (g o n c : Nat) (ln : Int) (ps : List Pf) (B : Nat) (v : Value) (ls : List ByteArray) (gs : List Fnc) (f : Fnc) (hfs : R.fs = gs ++ [f]) (h : RdG w0 w r R) (hP : FsAt w g o ps) (hn : n = ps.length) (hc : n ≤ c) (hnl : n ≤ 90000) (hv : w.ownsRow B 9 1 v ls.length (labs ls))
  (hl : gs.length ≤ 80000) (hll : ls.length ≤ 90000) (hcl : f.code.length ≤ 90000) (hwl : R.ws.length ≤ 90000) :
  Calls Tryz.prog 54 #[.pointer (some ⟨r, 0, none⟩), .int .i64 ln, v, .slice (some ⟨g, o, none⟩) n c] w (MethR w0 w r (Zc3 R gs f ln ls ps)) := by
 have hb := h.begun (by rw [hfs]; simp; omega)
 rw [decide_eq_true (by rw [hfs]; simp)] at hb
 have HBG := Za hb
 have HIN := Za (Zq6 g o n c ps w hP hn hc hnl)
 have HG := Za h
 have HP := Za hP
 have HN := Za hn
 have HV := Za hv
 have HFS := Za hfs
 have HKW := Za h.kept
 have HBD : Hid (gs.length ≤ 80000 ∧ ls.length ≤ 90000 ∧ f.code.length ≤ 90000 ∧ R.ws.length ≤ 90000 ∧ n ≤ 90000) := ⟨hl, hll, hcl, hwl, hnl⟩
 have hnI : (n : Int) ≤ 90000 := by omega
 clear h hb hP hn hv hfs hl hll hcl hwl hnl hc
 have HCF : Hid (Zc3 R gs f ln ls ps = if ps ≠ [] ∧ Zar ps = none then .bad 141 else if ps.any Pf.f = true then .bad 143 else match Xu f ls with | none => .bad 142 | some g => if ps = [] then .good ⟨R.mem, R.sized, R.data, gs ++ [g], R.ws⟩ else match Zar ps with | none => .bad 141 | some (op, a, w) => .good ⟨R.mem, R.sized, R.data, gs ++ [Xh g op a], R.ws ++ Zbt gs.length g ln op w⟩) := rfl
 generalize Zc3 R gs f ln ls ps = O at *
 obtain ⟨va, vc, hvv⟩ := Zd HV.out
 subst hvv
 go_enter Tryz.func54, Tryz.ntmps54
 go_wp2_with fail
 refine HBG.out.mono ?_
 rintro e w1 ⟨rfl, hw⟩
 have hw := hw.symm
 subst hw
 clear HBG
 go_wp2_with fail
 refine HIN.out.mono ?_
 rintro e w1 ⟨hk1, hcase⟩
 have HC := Za hcase
 have HK1 := Za hk1
 clear hk1 hcase HIN
 obtain ⟨x0, x1, s, b, he, hB⟩ : ∃ x0 x1 s b, e = .returned (.tuple #[.agg #[.int .i64 x0, .int .i64 x1], .string s, .bool b]) ∧ Zar ps = (if b = true then some (x0, x1, s) else none) := by
  rcases HC.out with ⟨op, a, s, h1, h2⟩ | ⟨h1, x0, x1, s, h2⟩
  ·exact ⟨op, a, s, true, h2, h1⟩
  ·exact ⟨x0, x1, s, false, h2, h1⟩
 subst he
 have HB := Za hB
 clear hB HC
 have hka : Kept nF w1 (w1.alloc (.cells #[.int .i64 x0, .int .i64 x1] 75)) := (Kept.refl _ _).alloc _
 have HX2 := Za (heap_alloc_new w1 (.cells #[.int .i64 x0, .int .i64 x1] 75))
 have HK2 := Za (HK1.out.trans hka)
 have HTF := Za (Zh3 g o n c ps (w1.alloc (.cells #[.int .i64 x0, .int .i64 x1] 75)) (HP.out.kept HK2.out id) HN.out HBD.out.2.2.2.2)
 clear hka HK1
 by_cases h0 : ps = []
 ·have HP0 := Za h0
  have hz : n = 0 := by rw [HN.out, h0]; rfl
  subst hz
  clear h0
  go_wp2_with fail
  refine HTF.out.mono ?_
  rintro e w3 ⟨rfl, hk3⟩
  have HK3 := Za (HK2.out.trans hk3)
  have HX3 := Za (Zc hk3 HX2.out id)
  clear hk3 HTF HK2 HX2
  rw [show ps.any Pf.f = false by rw [HP0.out]; rfl]
  have hg3 : RdG w0 w3 r R := HG.out.same HK3.out
  have HLB := Za (Zoc (w := w3) B _ ls gs f HFS.out hg3 (HK3.out.ownsRow HV.out (fun _ _ f => f)) (by have := HBD.out; omega) (by have := HBD.out; omega) (by have := HBD.out; omega))
  have HO3 := Za (Kept.othG HK3.out)
  clear hg3
  go_wp2_with fail
  refine HLB.out.mono ?_
  rintro e w4 ⟨hk4, hcase⟩
  have HK4 := Za hk4
  clear hk4 HLB
  rcases hcase with ⟨f', hf', rfl, hg4, ho4⟩ | ⟨hf', rfl⟩
  ·have HE : Hid (O = .good ⟨R.mem, R.sized, R.data, gs ++ [f'], R.ws⟩) := by
    show O = _
    rw [HCF.out, if_neg (fun e => e.1 HP0.out), if_neg (by rw [HP0.out]; simp), hf']
    simp only
    rw [if_pos HP0.out]
   have HG4 := Za hg4
   have HO4 := Za (HO3.out.trans ho4.othG)
   clear hg4 ho4 hf'
   go_wp2
   go_ret
   exact ⟨HK4.out, .inl ⟨_, HE.out, rfl, HG4.out, HO4.out⟩⟩
  ·have HE : Hid (O = .bad 142) := by
    show O = _
    rw [HCF.out, if_neg (fun e => e.1 HP0.out), if_neg (by rw [HP0.out]; simp), hf']
   clear hf'
   go_wp2
   go_ret
   exact ⟨HK4.out, .inr ⟨_, HE.out, rfl⟩⟩
 ·have hz : (0 : Int) < (n : Int) := by
   have := List.length_pos_iff.2 h0
   have := HN.out
   omega
  have HP0 := Za h0
  clear h0
  cases b with
  | false =>
   have HE : Hid (O = .bad 141) := by
    show O = _
    rw [HCF.out, if_pos ⟨HP0.out, HB.out⟩]
   clear HTF HB HCF
   go_wp2
   go_ret
   exact ⟨HKW.out.trans HK2.out, .inr ⟨_, HE.out, rfl⟩⟩
  | true =>
   have hIF : Zar ps = some (x0, x1, s) := HB.out
   have HIF := Za hIF
   clear hIF HB
   go_wp2_with fail
   refine HTF.out.mono ?_
   rintro e w3 ⟨rfl, hk3⟩
   have HK3 := Za (HK2.out.trans hk3)
   have HX3 := Za (Zc hk3 HX2.out id)
   clear hk3 HTF HK2 HX2
   by_cases hfar : ps.any Pf.f = true
   ·have HE : Hid (O = .bad 143) := by
     show O = _
     rw [HCF.out, if_neg (fun e => by rw [HIF.out] at e; cases e.2), if_pos hfar]
    rw [hfar]
    clear hfar HCF
    go_wp2
    go_ret
    exact ⟨HKW.out.trans HK3.out, .inr ⟨_, HE.out, rfl⟩⟩
   ·have HFR := Za hfar
    rw [show ps.any Pf.f = false by simpa using hfar]
    clear hfar
    have hg3 : RdG w0 w3 r R := HG.out.same HK3.out
    have HLB := Za (Zoc (w := w3) B _ ls gs f HFS.out hg3 (HK3.out.ownsRow HV.out (fun _ _ f => f)) (by have := HBD.out; omega) (by have := HBD.out; omega) (by have := HBD.out; omega))
    have HO3 := Za (Kept.othG HK3.out)
    clear hg3
    go_wp2_with fail
    refine HLB.out.mono ?_
    rintro e w4 ⟨hk4, hcase⟩
    have HK4 := Za hk4
    clear hk4 HLB
    rcases hcase with ⟨f', hf', rfl, hg4, ho4⟩ | ⟨hf', rfl⟩
    ·have HE : Hid (O = .good ⟨R.mem, R.sized, R.data, gs ++ [Xh f' x0 x1], R.ws ++ Zbt gs.length f' ln x0 s⟩) := by
      show O = _
      rw [HCF.out, if_neg (fun e => by rw [HIF.out] at e; cases e.2), if_neg HFR.out, hf']
      simp only
      rw [if_neg HP0.out, HIF.out]
     have HX4 := Za (ho4 _ _ _ _ HX3.out)
     have HADD := Za (Zxt (w := w4) ln x0 x1 s gs f' rfl hg4 (by have := HBD.out; omega) (by rw [Zfk _ _ _ hf']; have := HBD.out; omega) HBD.out.2.2.2.1)
     have HO4 := Za (HO3.out.trans ho4.othG)
     obtain ⟨a0, a1, _, _⟩ := Ym HX4.out
     clear hg4 ho4 hf' HX3
     go_wp2_with fail
     refine HADD.out.mono ?_
     rintro e w5 ⟨⟨v5, rfl⟩, hg5, ho5⟩
     have HG5 := Za hg5
     have HO5 := Za (HO4.out.trans ho5)
     clear hg5 ho5
     go_wp2
     go_ret
     exact ⟨HG5.out.kept, .inl ⟨_, HE.out, rfl, HG5.out, HO5.out⟩⟩
    ·have HE : Hid (O = .bad 142) := by
      show O = _
      rw [HCF.out, if_neg (fun e => by rw [HIF.out] at e; cases e.2), if_neg HFR.out, hf']
     clear hf'
     go_wp2
     go_ret
     exact ⟨HK4.out, .inr ⟨_, HE.out, rfl⟩⟩
end Go.Proofs.YtgoabnehdmdikaaGreatDoor
namespace Go.Proofs.YtgoabnehdmdikaaGreatDoor
open Go.RowKit
theorem Zlw (r : Int) (w : World) : Calls Tryz.prog 60 #[.int .u8 r] w fun e w' => e = .returned (.bool (Wc r)) ∧ w' = w := by
 by_cases h1 : 97 ≤ r ∧ r ≤ 122
 ·rw [show Wc r = true from decide_eq_true (.inl h1)]
  obtain ⟨h2, h3⟩ := h1
  go_enter Tryz.func60, Tryz.ntmps60
  go_wp2
  go_ret
  exact ⟨rfl, rfl⟩
 by_cases h2 : 65 ≤ r ∧ r ≤ 90
 ·rw [show Wc r = true from decide_eq_true (.inr (.inl h2))]
  obtain ⟨h3, h4⟩ := h2
  have h5 : ¬ (97 ≤ r) := by omega
  clear h1
  go_enter Tryz.func60, Tryz.ntmps60
  go_wp2
  go_ret
  exact ⟨rfl, rfl⟩
 by_cases h3 : r = 95
 ·subst h3
  go_enter Tryz.func60, Tryz.ntmps60
  go_wp2
  go_ret
  exact ⟨rfl, rfl⟩
 ·rw [show Wc r = false from decide_eq_false (by omega)]
  have h5 : (r == 95) = false := by simp; omega
  by_cases h6 : 97 ≤ r
  ·have h7 : ¬ r ≤ 122 := by omega
   have h8 : ¬ r ≤ 90 := by omega
   have h9 : (65 : Int) ≤ r := by omega
   clear h1 h2 h3
   go_enter Tryz.func60, Tryz.ntmps60
   go_wp2
   go_ret
   exact ⟨rfl, rfl⟩
  ·by_cases h7 : 65 ≤ r
   ·have h8 : ¬ r ≤ 90 := by omega
    clear h1 h2 h3
    go_enter Tryz.func60, Tryz.ntmps60
    go_wp2
    go_ret
    exact ⟨rfl, rfl⟩
   ·clear h1 h2 h3
    go_enter Tryz.func60, Tryz.ntmps60
    go_wp2
    go_ret
    exact ⟨rfl, rfl⟩
theorem Zcc (r : Int) (w : World) : Calls Tryz.prog 62 #[.int .u8 r] w fun e w' => e = .returned (.bool (Xa r)) ∧ w' = w := by
 by_cases h1 : 48 ≤ r ∧ r ≤ 57
 ·rw [show Xa r = true from decide_eq_true h1]
  obtain ⟨h2, h3⟩ := h1
  go_enter Tryz.func62, Tryz.ntmps62
  go_wp2
  go_ret
  exact ⟨rfl, rfl⟩
 ·rw [show Xa r = false from decide_eq_false h1]
  by_cases h2 : 48 ≤ r
  ·have h3 : ¬ r ≤ 57 := by omega
   clear h1
   go_enter Tryz.func62, Tryz.ntmps62
   go_wp2
   go_ret
   exact ⟨rfl, rfl⟩
  ·clear h1
   go_enter Tryz.func62, Tryz.ntmps62
   go_wp2
   go_ret
   exact ⟨rfl, rfl⟩
theorem Zmz (r : Int) (w : World) : Calls Tryz.prog 61 #[.int .u8 r] w fun e w' => e = .returned (.bool (goP r)) ∧ w' = w := by
 have HL := Za (Zlw r w)
 have HD := Za (Zcc r w)
 have hg : goP r = (Wc r || Xa r) := rfl
 rw [hg]
 generalize Wc r = bl at *
 generalize Xa r = bd at *
 clear hg
 cases bl
 ·go_enter Tryz.func61, Tryz.ntmps61
  go_wp2_with fail
  refine HL.out.mono ?_
  rintro e w1 ⟨rfl, hw⟩
  have hw := hw.symm
  subst hw
  go_wp2_with fail
  refine HD.out.mono ?_
  rintro e w2 ⟨rfl, hw⟩
  have hw := hw.symm
  subst hw
  go_wp2
  go_ret
  exact ⟨rfl, rfl⟩
 ·go_enter Tryz.func61, Tryz.ntmps61
  go_wp2_with fail
  refine HL.out.mono ?_
  rintro e w1 ⟨rfl, hw⟩
  have hw := hw.symm
  subst hw
  go_wp2
  go_ret
  exact ⟨rfl, rfl⟩
def Zfl (r : Int) : Bool := decide (r = 9 ∨ r = 13 ∨ r = 32)
theorem Zoe (r : Int) (w : World) : Calls Tryz.prog 58 #[.int .u8 r] w fun e w' => e = .returned (.bool (Zfl r)) ∧ w' = w := by
 by_cases h1 : r = 9 ∨ r = 13 ∨ r = 32
 ·rw [show Zfl r = true from decide_eq_true h1]
  rcases h1 with rfl | rfl | rfl
  ·go_enter Tryz.func58, Tryz.ntmps58
   go_wp2
   go_ret
   exact ⟨rfl, rfl⟩
  ·go_enter Tryz.func58, Tryz.ntmps58
   go_wp2
   go_ret
   exact ⟨rfl, rfl⟩
  ·go_enter Tryz.func58, Tryz.ntmps58
   go_wp2
   go_ret
   exact ⟨rfl, rfl⟩
 ·rw [show Zfl r = false from decide_eq_false h1]
  have e9 : (r == 9) = false := by simp; omega
  have e13 : (r == 13) = false := by simp; omega
  have e32 : (r == 32) = false := by simp; omega
  clear h1
  go_enter Tryz.func58, Tryz.ntmps58
  go_wp2
  go_ret
  exact ⟨rfl, rfl⟩
theorem Zq7 (r : Int) (h0 : 0 ≤ r) (h255 : r < 256) (w : World) : Calls Tryz.prog 89 #[.int .u8 r] w fun e w' => e = .returned (.int .i64 (Zz r)) ∧ w' = w := by
 have HD := Za (Zcc r w)
 by_cases h1 : 48 ≤ r ∧ r ≤ 57
 ·rw [show Xa r = true from decide_eq_true h1] at HD
  rw [show Zz r = r - 48 from if_pos h1]
  obtain ⟨h2, h3⟩ := h1
  go_enter Tryz.func89, Tryz.ntmps89
  go_wp2_with fail
  refine HD.out.mono ?_
  rintro e w1 ⟨rfl, hw⟩
  have hw := hw.symm
  subst hw
  go_wp2
  go_ret
  exact ⟨rfl, rfl⟩
 ·rw [show Xa r = false from decide_eq_false h1] at HD
  by_cases h2 : 97 ≤ r ∧ r ≤ 102
  ·have he : Zz r = r - 97 + 10 := by unfold Zz; rw [if_neg h1, if_pos h2]; omega
   rw [he]
   obtain ⟨h3, h4⟩ := h2
   clear h1 he
   go_enter Tryz.func89, Tryz.ntmps89
   go_wp2_with fail
   refine HD.out.mono ?_
   rintro e w1 ⟨rfl, hw⟩
   have hw := hw.symm
   subst hw
   go_wp2
   go_ret
   exact ⟨rfl, rfl⟩
  ·rw [show Zz r = -1 by unfold Zz; rw [if_neg h1, if_neg h2]]
   by_cases h3 : 97 ≤ r
   ·have h4 : ¬ r ≤ 102 := by omega
    clear h1 h2
    go_enter Tryz.func89, Tryz.ntmps89
    go_wp2_with fail
    refine HD.out.mono ?_
    rintro e w1 ⟨rfl, hw⟩
    have hw := hw.symm
    subst hw
    go_wp2
    go_ret
    exact ⟨rfl, rfl⟩
   ·clear h1 h2
    go_enter Tryz.func89, Tryz.ntmps89
    go_wp2_with fail
    refine HD.out.mono ?_
    rintro e w1 ⟨rfl, hw⟩
    have hw := hw.symm
    subst hw
    go_wp2
    go_ret
    exact ⟨rfl, rfl⟩
def glP (a b : Int) : Bool := decide (a ≠ 4 ∧ b ≠ 4 ∧ a ≠ 0)
theorem Zax (a b : Int) (w : World) : Calls Tryz.prog 64 #[.int .i64 a, .int .i64 b] w fun e w' => e = .returned (.bool (glP a b)) ∧ w' = w := by
 by_cases h1 : a = 4
 ·subst h1
  rw [show glP 4 b = false from decide_eq_false (by simp)]
  go_enter Tryz.func64, Tryz.ntmps64
  go_wp2
  go_ret
  exact ⟨rfl, rfl⟩
 ·have e1 : (a != 4) = true := by simp; exact h1
  by_cases h2 : b = 4
  ·subst h2
   rw [show glP a 4 = false from decide_eq_false (by simp)]
   go_enter Tryz.func64, Tryz.ntmps64
   go_wp2
   go_ret
   exact ⟨rfl, rfl⟩
  ·have e2 : (b != 4) = true := by simp; exact h2
   by_cases h3 : a = 0
   ·subst h3
    rw [show glP 0 b = false from decide_eq_false (by simp)]
    go_enter Tryz.func64, Tryz.ntmps64
    go_wp2
    go_ret
    exact ⟨rfl, rfl⟩
   ·have e3 : (a != 0) = true := by simp; exact h3
    rw [show glP a b = true from decide_eq_true ⟨h1, h2, h3⟩]
    go_enter Tryz.func64, Tryz.ntmps64
    go_wp2
    go_ret
    exact ⟨rfl, rfl⟩
abbrev Yp (c : UInt8) : Prop := 48 ≤ c.toNat ∧ c.toNat ≤ 57
def Zu (acc : Nat) : List UInt8 → Nat
 | [] => acc
 | c :: r => Zu (acc * 10 + (c.toNat - 48)) r
theorem Zhn : ∀ (l : List UInt8) (acc : Nat), acc ≤ Zu acc l
 | [], acc => Nat.le_refl _
 | c :: r, acc => Nat.le_trans (by omega) (Zhn r _)
theorem Zbf : ∀ (l : List UInt8) (acc : Nat) (c : UInt8), Zu acc (l ++ [c]) = Zu acc l * 10 + (c.toNat - 48)
 | [], acc, c => rfl
 | a :: r, acc, c => Zbf r _ c
theorem Zbv (l : List UInt8) (k : Nat) : Zu 0 (l.take k) ≤ Zu 0 l := by
 have : ∀ (a b : List UInt8) (acc : Nat), Zu acc a ≤ Zu acc (a ++ b) := by
  intro a
  induction a with
  | nil => intro b acc; exact Zhn b acc
  | cons c r ih => intro b acc; exact ih b _
 have h := this (l.take k) (l.drop k) 0
 rwa [List.take_append_drop] at h
theorem Zib : ∀ (l : List UInt8) (acc : Nat), (∀ c ∈ l, Yp c) → acc ≤ 18446744073709551615 → Lib.parseUintM 18446744073709551615 acc l = if Zu acc l ≤ 18446744073709551615 then .ok (Zu acc l) else .range
 | [], acc, _, h => by rw [if_pos (by exact h)]; rfl
 | c :: r, acc, hd, h => by
  have hc := hd c List.mem_cons_self
  have hle := Zhn r (acc * 10 + (c.toNat - 48))
  unfold Lib.parseUintM
  rw [if_pos hc]
  by_cases h1 : 1844674407370955162 ≤ acc
  ·rw [if_pos h1, if_neg (by show ¬ Zu _ r ≤ _; omega)]
  ·rw [if_neg h1]
   by_cases h2 : 18446744073709551615 < acc * 10 + (c.toNat - 48)
   ·rw [if_pos h2, if_neg (by show ¬ Zu _ r ≤ _; omega)]
   ·rw [if_neg h2]
    exact Zib r _ (fun x hx => hd x (List.mem_cons_of_mem _ hx)) (by omega)
theorem Zof (c : UInt8) : dgL.contains c = decide (Yp c) := by
 have : ∀ n : Nat, n < 256 → dgL.contains n.toUInt8 = decide (48 ≤ n ∧ n ≤ 57) := by decide +kernel
 have e := this c.toNat (UInt8.toNat_lt c)
 rw [show c.toNat.toUInt8 = c by simp] at e
 rw [e]
def sgn (m : Bool) (ds : List UInt8) : List UInt8 := if m = true then 45 :: ds else ds
def Zcp (m : Bool) (ds : List UInt8) : Prop := m = true ∨ (ds.head? ≠ some 45 ∧ (Lib.hasPrefix ds [48, 120] = false ∨ ds = [48, 120]))
theorem Zlx (m : Bool) (ds : List UInt8) (h : Zcp m ds) : okN (sgn m ds) = Zbo ds dgL := by
 cases m with
 | true =>
  show okN (45 :: ds) = _
  unfold okN
  rw [if_neg (by simp [Lib.hasPrefix])]
  rfl
 | false =>
  show okN ds = _
  rcases h with h | ⟨h1, h2⟩
  ·cases h
  ·rcases h2 with h2 | h2
   ·unfold okN
    rw [h2]
    simp only [Bool.false_eq_true, if_false]
    congr 1
    unfold Lib.trimPrefix
    rw [if_neg]
    cases ds with
    | nil => simp [Lib.hasPrefix]
    | cons c r =>
     simp only [List.head?_cons, ne_eq, Option.some.injEq] at h1
     simp [Lib.hasPrefix]
     exact fun e => h1 e.symm
   ·subst h2
    decide
theorem Zcw (m : Bool) (ds : List UInt8) (h : Zcp m ds) (c : UInt8) (hc : c ∈ ds) (hd : ¬ Yp c) : okN (sgn m ds) = false := by
 rw [Zlx m ds h]
 unfold Zbo
 rw [Bool.and_eq_false_iff]
 right
 rw [List.all_eq_false]
 exact ⟨c, hc, by rw [Zof, decide_eq_false hd]; decide⟩
theorem Zcx (m : Bool) : okN (sgn m []) = false := by cases m <;> decide
theorem Zci (m : Bool) (ds : List UInt8) (h : Zcp m ds) (hne : ds ≠ []) (hd : ∀ c ∈ ds, Yp c) :
  okN (sgn m ds) = true ∧ Yv (sgn m ds) = decide (9223372036854775808 < Zu 0 ds ∨ (Zu 0 ds = 9223372036854775808 ∧ m = false)) ∧ (Yv (sgn m ds) = false → Xe (sgn m ds) = if m = true then -(Zu 0 ds : Int) else Zu 0 ds) := by
 have hok : okN (sgn m ds) = true := by
  rw [Zlx m ds h]
  unfold Zbo
  rw [Bool.and_eq_true]
  refine ⟨by simpa using hne, List.all_eq_true.2 (fun c hc => by rw [Zof]; exact decide_eq_true (hd c hc))⟩
 have hpre : Lib.hasPrefix (sgn m ds) [48, 120] = false := by
  cases m with
  | true => rfl
  | false =>
   rcases h with h | ⟨_, h | h⟩
   ·cases h
   ·exact h
   ·subst h
    exact absurd (hd 120 (by simp)) (by unfold Yp; decide)
 have hu : Lib.parseUintB 64 ds = if Zu 0 ds ≤ 18446744073709551615 then .ok (Zu 0 ds) else .range := by
  unfold Lib.parseUintB
  rw [if_neg hne]
  exact Zib ds 0 hd (by omega)
 have hp : Lib.parseIntB 64 (sgn m ds) = if Zu 0 ds ≤ 18446744073709551615 then (if ¬ (m = true) ∧ 9223372036854775808 ≤ Zu 0 ds then .range else if m = true ∧ 9223372036854775808 < Zu 0 ds then .range else .ok (if m = true then -(Zu 0 ds : Int) else Zu 0 ds)) else .range := by
  cases m with
  | true =>
   show Lib.parseIntB 64 (45 :: ds) = _
   unfold Lib.parseIntB
   simp only [show (45 : UInt8).toNat = 45 from rfl, or_true, if_true]
   rw [hu]
   by_cases h1 : Zu 0 ds ≤ 18446744073709551615
   ·simp [h1]
   ·simp [h1]
  | false =>
   show Lib.parseIntB 64 ds = _
   cases ds with
   | nil => exact absurd rfl hne
   | cons c r =>
    have hc := hd c List.mem_cons_self
    unfold Yp at hc
    unfold Lib.parseIntB
    simp only [show ¬ c.toNat = 43 by omega, show ¬ c.toNat = 45 by omega, or_self, if_false]
    rw [hu]
    by_cases h1 : Zu 0 (c :: r) ≤ 18446744073709551615
    ·simp [h1]
    ·simp [h1]
 generalize Zu 0 ds = V at *
 by_cases h1 : V ≤ 18446744073709551615
 ·rw [if_pos h1] at hp
  cases m with
  | true =>
   simp only [not_true, false_and, if_false, true_and, if_true] at hp
   by_cases h2 : 9223372036854775808 < V
   ·rw [if_pos h2] at hp
    refine ⟨hok, ?_, ?_⟩
    ·unfold Yv; rw [hpre, hp]; simp [h2]
    ·unfold Yv; rw [hpre, hp]; intro hf; cases hf
   ·rw [if_neg h2] at hp
    refine ⟨hok, ?_, ?_⟩
    ·unfold Yv; rw [hpre, hp]; simp [h2]
    ·unfold Xe; rw [hpre, hp]; intro _; rfl
  | false =>
   simp only [Bool.false_eq_true, not_false_eq_true, true_and, false_and, if_false] at hp
   by_cases h2 : 9223372036854775808 ≤ V
   ·rw [if_pos h2] at hp
    refine ⟨hok, ?_, ?_⟩
    ·unfold Yv; rw [hpre, hp]
     show true = _
     exact (decide_eq_true (by simp; omega)).symm
    ·unfold Yv; rw [hpre, hp]; intro hf; cases hf
   ·rw [if_neg h2] at hp
    refine ⟨hok, ?_, ?_⟩
    ·unfold Yv; rw [hpre, hp]
     show false = _
     exact (decide_eq_false (by simp; omega)).symm
    ·unfold Xe; rw [hpre, hp]; intro _; rfl
 ·rw [if_neg h1] at hp
  refine ⟨hok, ?_, ?_⟩
  ·unfold Yv; rw [hpre, hp]
   show true = _
   exact (decide_eq_true (by left; omega)).symm
  ·unfold Yv; rw [hpre, hp]; intro hf; cases hf
end Go.Proofs.YtgoabnehdmdikaaGreatDoor

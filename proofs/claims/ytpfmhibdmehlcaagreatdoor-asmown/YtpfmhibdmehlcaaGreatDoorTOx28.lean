import Derived.Test.YtpfmhibdmehlcaaGreatDoorTOx27
import Derived.Test.YtpfmhibdmehlcaaGreatDoorTOx14
import Derived.Test.YtpfmhibdmehlcaaGreatDoorTOx8
namespace Go.Proofs.YtpfmhibdmehlcaaGreatDoor
open Go.RowKit
set_option linter.unusedVariables false
set_option linter.unusedSimpArgs false
set_option maxRecDepth 100000
variable {w0 w : World} {r gm : Nat} {R : Rdr} {NL : List (ByteArray × Int)} {dv fv lv wv : Value} {CV : List Value} {GM : List Nat}
theorem labF_code : ∀ (ls : List ByteArray) (f g : Fnc), labF f ls = some g → g.code = f.code
 | [], f, g, h => by cases h; rfl
 | s :: ss, f, g, h => by
  rw [labF] at h
  by_cases hs : (lkA f.ls s).isSome = true
  ·rw [if_pos hs] at h
   cases h
  ·rw [if_neg hs] at h
   exact labF_code ss ⟨f.nm, f.a, f.l, f.r, f.ls ++ [(s, (f.code.length : Int))], f.code⟩ g h
theorem RdG.begun (h : RdG w0 w r R) (hl : R.fs.length ≤ 90000) : Calls Tryz.prog 74 #[.pointer (some ⟨r, 0, none⟩)] w fun e w' => e = .returned (.bool (decide (R.fs ≠ []))) ∧ w' = w := by
 obtain ⟨_, _, _, _, _, _, _, hX⟩ := h
 exact begunG hX.toRdZ hl
theorem RdG.kept (h : RdG w0 w r R) : Kept (fun _ => False) w0 w := by
 obtain ⟨_, _, _, _, _, _, _, hX⟩ := h
 exact hX.kept
set_option maxHeartbeats 8000000 in
theorem codeG_nil (ln : Int) (v l : Value) (h : RdG w0 w r R) (hf : R.fs = []) : Calls Tryz.prog 54 #[.pointer (some ⟨r, 0, none⟩), .int .i64 ln, v, l] w (MethR w0 w r (.bad 141)) := by
 have hb := h.begun (by rw [hf]; simp)
 rw [decide_eq_false (by simpa using hf)] at hb
 have HB := hid_of hb
 have HK := hid_of h.kept
 clear h hf hb
 go_enter Tryz.func54, Tryz.ntmps54
 go_wp2_with fail
 refine HB.out.mono ?_
 rintro e w1 ⟨rfl, hw⟩
 have hw := hw.symm
 subst hw
 go_wp2
 go_ret
 exact ⟨HK.out, .inr ⟨_, rfl, rfl⟩⟩
theorem instr_ps (g o n c : Nat) (ps : List Pf) (w : World) (hP : FsAt w g o ps) (hn : n = ps.length) (hc : n ≤ c) (hnl : n ≤ 90000) : Calls Tryz.prog 75 #[.slice (some ⟨g, o, none⟩) n c] w (InsR (instrF ps) w) := by
 cases ps with
 | nil =>
  have h0 : n = 0 := hn
  subst h0
  exact instr_nil (some ⟨g, o, none⟩) c w
 | cons p l => exact instructionG g o n c p l w hP hn hc hnl
set_option maxHeartbeats 16000000 in
theorem codeG (g o n c : Nat) (ln : Int) (ps : List Pf) (B : Nat) (v : Value) (ls : List ByteArray) (gs : List Fnc) (f : Fnc) (hfs : R.fs = gs ++ [f]) (h : RdG w0 w r R) (hP : FsAt w g o ps) (hn : n = ps.length) (hc : n ≤ c) (hnl : n ≤ 90000) (hv : w.ownsRow B 9 1 v ls.length (labs ls))
  (hl : gs.length ≤ 80000) (hll : ls.length ≤ 90000) (hcl : f.code.length ≤ 90000) (hwl : R.ws.length ≤ 90000) :
  Calls Tryz.prog 54 #[.pointer (some ⟨r, 0, none⟩), .int .i64 ln, v, .slice (some ⟨g, o, none⟩) n c] w (MethR w0 w r (codeF R gs f ln ls ps)) := by
 have hb := h.begun (by rw [hfs]; simp; omega)
 rw [decide_eq_true (by rw [hfs]; simp)] at hb
 have HBG := hid_of hb
 have HIN := hid_of (instr_ps g o n c ps w hP hn hc hnl)
 have HG := hid_of h
 have HP := hid_of hP
 have HN := hid_of hn
 have HV := hid_of hv
 have HFS := hid_of hfs
 have HKW := hid_of h.kept
 have HBD : Hid (gs.length ≤ 80000 ∧ ls.length ≤ 90000 ∧ f.code.length ≤ 90000 ∧ R.ws.length ≤ 90000 ∧ n ≤ 90000) := ⟨hl, hll, hcl, hwl, hnl⟩
 have hnI : (n : Int) ≤ 90000 := by omega
 clear h hb hP hn hv hfs hl hll hcl hwl hnl hc
 have HCF : Hid (codeF R gs f ln ls ps = if ps ≠ [] ∧ instrF ps = none then .bad 141 else if ps.any Pf.f = true then .bad 143 else match labF f ls with | none => .bad 142 | some g => if ps = [] then .good ⟨R.mem, R.sized, R.data, gs ++ [g], R.ws⟩ else match instrF ps with | none => .bad 141 | some (op, a, w) => .good ⟨R.mem, R.sized, R.data, gs ++ [addC g op a], R.ws ++ addW gs.length g ln op w⟩) := rfl
 generalize codeF R gs f ln ls ps = O at *
 obtain ⟨va, vc, hvv⟩ := ownsRow_shape HV.out
 subst hvv
 go_enter Tryz.func54, Tryz.ntmps54
 go_wp2_with fail
 refine HBG.out.mono ?_
 rintro e w1 ⟨rfl, hw⟩
 have hw := hw.symm
 subst hw
 clear HBG
 go_wp2_with fail
 refine HIN.out.mono ?_
 rintro e w1 ⟨hk1, hcase⟩
 have HC := hid_of hcase
 have HK1 := hid_of hk1
 clear hk1 hcase HIN
 obtain ⟨x0, x1, s, b, he, hB⟩ : ∃ x0 x1 s b, e = .returned (.tuple #[.agg #[.int .i64 x0, .int .i64 x1], .string s, .bool b]) ∧ instrF ps = (if b = true then some (x0, x1, s) else none) := by
  rcases HC.out with ⟨op, a, s, h1, h2⟩ | ⟨h1, x0, x1, s, h2⟩
  ·exact ⟨op, a, s, true, h2, h1⟩
  ·exact ⟨x0, x1, s, false, h2, h1⟩
 subst he
 have HB := hid_of hB
 clear hB HC
 have hka : Kept (fun _ => False) w1 (w1.alloc (.cells #[.int .i64 x0, .int .i64 x1] 48)) := (Kept.refl _ _).alloc _
 have HX2 := hid_of (heap_alloc_new w1 (.cells #[.int .i64 x0, .int .i64 x1] 48))
 have HK2 := hid_of (HK1.out.trans hka)
 have HTF := hid_of (tooFarG g o n c ps (w1.alloc (.cells #[.int .i64 x0, .int .i64 x1] 48)) (HP.out.kept HK2.out id) HN.out HBD.out.2.2.2.2)
 clear hka HK1
 by_cases h0 : ps = []
 ·have HP0 := hid_of h0
  have hz : n = 0 := by rw [HN.out, h0]; rfl
  subst hz
  clear h0
  go_wp2_with fail
  refine HTF.out.mono ?_
  rintro e w3 ⟨rfl, hk3⟩
  have HK3 := hid_of (HK2.out.trans hk3)
  have HX3 := hid_of (box_kept hk3 HX2.out id)
  clear hk3 HTF HK2 HX2
  rw [show ps.any Pf.f = false by rw [HP0.out]; rfl]
  have hg3 : RdG w0 w3 r R := HG.out.same HK3.out
  have HLB := hid_of (labelG (w := w3) B _ ls gs f HFS.out hg3 (HK3.out.ownsRow HV.out (fun _ _ f => f)) (by have := HBD.out; omega) (by have := HBD.out; omega) (by have := HBD.out; omega))
  have HO3 := hid_of (Kept.othG HK3.out)
  clear hg3
  go_wp2_with fail
  refine HLB.out.mono ?_
  rintro e w4 ⟨hk4, hcase⟩
  have HK4 := hid_of hk4
  clear hk4 HLB
  rcases hcase with ⟨f', hf', rfl, hg4, ho4⟩ | ⟨hf', rfl⟩
  ·have HE : Hid (O = .good ⟨R.mem, R.sized, R.data, gs ++ [f'], R.ws⟩) := by
    show O = _
    rw [HCF.out, if_neg (fun e => e.1 HP0.out), if_neg (by rw [HP0.out]; simp), hf']
    simp only
    rw [if_pos HP0.out]
   have HG4 := hid_of hg4
   have HO4 := hid_of (HO3.out.trans ho4.othG)
   clear hg4 ho4 hf'
   go_wp2
   go_ret
   exact ⟨HK4.out, .inl ⟨_, HE.out, rfl, HG4.out, HO4.out⟩⟩
  ·have HE : Hid (O = .bad 142) := by
    show O = _
    rw [HCF.out, if_neg (fun e => e.1 HP0.out), if_neg (by rw [HP0.out]; simp), hf']
   clear hf'
   go_wp2
   go_ret
   exact ⟨HK4.out, .inr ⟨_, HE.out, rfl⟩⟩
 ·have hz : (0 : Int) < (n : Int) := by
   have := List.length_pos_iff.2 h0
   have := HN.out
   omega
  have HP0 := hid_of h0
  clear h0
  cases b with
  | false =>
   have HE : Hid (O = .bad 141) := by
    show O = _
    rw [HCF.out, if_pos ⟨HP0.out, HB.out⟩]
   clear HTF HB HCF
   go_wp2
   go_ret
   exact ⟨HKW.out.trans HK2.out, .inr ⟨_, HE.out, rfl⟩⟩
  | true =>
   have hIF : instrF ps = some (x0, x1, s) := HB.out
   have HIF := hid_of hIF
   clear hIF HB
   go_wp2_with fail
   refine HTF.out.mono ?_
   rintro e w3 ⟨rfl, hk3⟩
   have HK3 := hid_of (HK2.out.trans hk3)
   have HX3 := hid_of (box_kept hk3 HX2.out id)
   clear hk3 HTF HK2 HX2
   by_cases hfar : ps.any Pf.f = true
   ·have HE : Hid (O = .bad 143) := by
     show O = _
     rw [HCF.out, if_neg (fun e => by rw [HIF.out] at e; cases e.2), if_pos hfar]
    rw [hfar]
    clear hfar HCF
    go_wp2
    go_ret
    exact ⟨HKW.out.trans HK3.out, .inr ⟨_, HE.out, rfl⟩⟩
   ·have HFR := hid_of hfar
    rw [show ps.any Pf.f = false by simpa using hfar]
    clear hfar
    have hg3 : RdG w0 w3 r R := HG.out.same HK3.out
    have HLB := hid_of (labelG (w := w3) B _ ls gs f HFS.out hg3 (HK3.out.ownsRow HV.out (fun _ _ f => f)) (by have := HBD.out; omega) (by have := HBD.out; omega) (by have := HBD.out; omega))
    have HO3 := hid_of (Kept.othG HK3.out)
    clear hg3
    go_wp2_with fail
    refine HLB.out.mono ?_
    rintro e w4 ⟨hk4, hcase⟩
    have HK4 := hid_of hk4
    clear hk4 HLB
    rcases hcase with ⟨f', hf', rfl, hg4, ho4⟩ | ⟨hf', rfl⟩
    ·have HE : Hid (O = .good ⟨R.mem, R.sized, R.data, gs ++ [addC f' x0 x1], R.ws ++ addW gs.length f' ln x0 s⟩) := by
      show O = _
      rw [HCF.out, if_neg (fun e => by rw [HIF.out] at e; cases e.2), if_neg HFR.out, hf']
      simp only
      rw [if_neg HP0.out, HIF.out]
     have HX4 := hid_of (ho4 _ _ _ _ HX3.out)
     have HADD := hid_of (addG (w := w4) ln x0 x1 s gs f' rfl hg4 (by have := HBD.out; omega) (by rw [labF_code _ _ _ hf']; have := HBD.out; omega) HBD.out.2.2.2.1)
     have HO4 := hid_of (HO3.out.trans ho4.othG)
     obtain ⟨a0, a1, _, _⟩ := look2 HX4.out
     clear hg4 ho4 hf' HX3
     go_wp2_with fail
     refine HADD.out.mono ?_
     rintro e w5 ⟨⟨v5, rfl⟩, hg5, ho5⟩
     have HG5 := hid_of hg5
     have HO5 := hid_of (HO4.out.trans ho5)
     clear hg5 ho5
     go_wp2
     go_ret
     exact ⟨HG5.out.kept, .inl ⟨_, HE.out, rfl, HG5.out, HO5.out⟩⟩
    ·have HE : Hid (O = .bad 142) := by
      show O = _
      rw [HCF.out, if_neg (fun e => by rw [HIF.out] at e; cases e.2), if_neg HFR.out, hf']
     clear hf'
     go_wp2
     go_ret
     exact ⟨HK4.out, .inr ⟨_, HE.out, rfl⟩⟩
end Go.Proofs.YtpfmhibdmehlcaaGreatDoor
namespace Go.Proofs.YtpfmhibdmehlcaaGreatDoor
open Go.RowKit
set_option linter.unusedVariables false
set_option linter.unusedSimpArgs false
set_option maxRecDepth 100000
theorem beg_txt {x y : CS} {r : Int} (h : begP x r = some y) : ∀ p ∈ y.ps, p ∈ x.ps ∨ p.s.size = 0 := by
 unfold begP at h
 repeat' split at h
 all_goals first | (cases h; done) | skip
 all_goals
  injection h with h
  subst h
  intro p hp
  simp only [List.mem_append, List.mem_singleton] at hp
  first
   | exact .inl hp
   | (
     rcases hp with hp | rfl
     ·exact .inl hp
     ·exact .inr rfl)
theorem end_txt (x : CS) : ∀ p ∈ (endS x).ps, p ∈ x.ps ∨ p.s.size ≤ x.un.length := by
 intro p hp
 unfold endS at hp
 split at hp
 ·simp only [List.mem_append, List.mem_singleton] at hp
  rcases hp with hp | rfl
  ·exact .inl hp
  ·exact .inr (by show (str x.un).size ≤ _; rw [str_size]; exact Nat.le_refl _)
 ·split at hp
  ·simp only [List.mem_append, List.mem_singleton] at hp
   rcases hp with hp | rfl
   ·exact .inl hp
   ·exact .inr (Nat.zero_le _)
  ·exact .inl hp
theorem take_txt {x y : CS} {r : Int} (h : takeP x r = some y) : ∀ p ∈ y.ps, p ∈ x.ps ∨ p.s.size ≤ x.un.length := by
 unfold takeP at h
 split at h
 ·split at h
  ·injection h with h
   subst h
   exact fun p hp => .inl hp
  ·split at h
   ·intro p hp
    rcases beg_txt h p hp with h1 | h1
    ·exact end_txt x p h1
    ·exact .inr (by omega)
   ·cases h
 ·split at h
  ·unfold withP at h
   repeat' split at h
   all_goals first | (cases h; done) | skip
   all_goals
    injection h with h
    subst h
    intro p hp
    first
     | exact .inl hp
     | (
       simp only [List.mem_append, List.mem_singleton] at hp
       rcases hp with hp | rfl
       ·exact .inl hp
       ·exact .inr (by show (str x.un).size ≤ _; rw [str_size]; exact Nat.le_refl _))
  ·split at h
   ·unfold escP at h
    repeat' split at h
    all_goals first | (cases h; done) | skip
    all_goals
     injection h with h
     subst h
     exact fun p hp => .inl hp
   ·split at h
    ·unfold digP at h
     repeat' split at h
     all_goals first | (cases h; done) | skip
     all_goals
      injection h with h
      subst h
      exact fun p hp => .inl hp
    ·intro p hp
     rcases beg_txt h p hp with h1 | h1
     ·exact .inl h1
     ·exact .inr (by omega)
theorem cut_bound (N : Nat) : ∀ (l : List UInt8) (x y : CS), cutF l x = some y → OkS x → (∀ p ∈ x.ps, p.s.size ≤ N) → x.un.length + l.length ≤ N → OkS y ∧ (∀ p ∈ y.ps, p.s.size ≤ N) ∧ y.un.length ≤ N ∧ mu y ≤ mu x + l.length
 | [], x, y, h, hx, hp, hu => by
  rw [cutF] at h
  cases h
  exact ⟨hx, hp, by simpa using hu, by simp⟩
 | b :: l, x, y, h, hx, hp, hu => by
  rw [cutF] at h
  simp only [List.length_cons] at hu ⊢
  split at h
  ·cases h
   exact ⟨hx, hp, by omega, by omega⟩
  ·cases ht : takeP x (b.toNat : Int) with
   | none => rw [ht] at h; cases h
   | some z =>
    rw [ht] at h
    obtain ⟨hz, hm, hn⟩ := tak_ok ht hx
    obtain ⟨h1, h2, h3, h4⟩ := cut_bound N l z y h hz (fun p hpz => by
     rcases take_txt ht p hpz with h | h
     ·exact hp p h
     ·omega) (by omega)
    exact ⟨h1, h2, h3, by omega⟩
theorem cutV_bound {l : List UInt8} {ps : List Pf} (h : cutV l = some ps) : ps.length ≤ l.length + 1 ∧ ∀ p ∈ ps, p.s.size ≤ l.length := by
 unfold cutV at h
 cases hc : cutF l ⟨[], 0, [], 0⟩ with
 | none => rw [hc] at h; cases h
 | some x =>
  rw [hc] at h
  simp only at h
  split at h
  ·cases h
   obtain ⟨h1, h2, h3, h4⟩ := cut_bound l.length l _ x hc ⟨by decide, by decide, fun h => absurd h (by decide)⟩ (by simp) (by simp)
   refine ⟨?_, fun p hp => ?_⟩
   ·have h5 : (endS x).ps.length ≤ mu x := by
     unfold endS mu
     split
     ·rename_i e; simp [e]
     ·split
      ·rename_i e; simp [e]
      ·split <;> omega
    have h6 : mu (⟨[], 0, [], 0⟩ : CS) = 0 := rfl
    omega
   ·rcases end_txt x p hp with h | h
    ·exact h2 p h
    ·omega
  ·cases h
theorem labP_len : ∀ (ps : List Pf), (labP ps).1.length + (labP ps).2.length ≤ ps.length ∧ ∀ p ∈ (labP ps).2, p ∈ ps
 | [] => ⟨by simp [labP], fun p h => h⟩
 | [p] => ⟨by simp [labP], fun q h => h⟩
 | p :: q :: l => by
  by_cases h : p.k = 0 ∧ q.k = 3
  ·rw [labP_cons p q l h]
   obtain ⟨h1, h2⟩ := labP_len l
   simp only [List.length_cons]
   exact ⟨by omega, fun r hr => List.mem_cons_of_mem _ (List.mem_cons_of_mem _ (h2 r hr))⟩
  ·rw [labP_stop p q l h]
   exact ⟨by simp, fun r hr => hr⟩
theorem txt_no {a b : ByteArray} (h : a ≠ b) : (a.toList == b.toList) = false := by
 cases e : a.toList == b.toList with
 | false => rfl
 | true => exact absurd (txt_eq e) h
end Go.Proofs.YtpfmhibdmehlcaaGreatDoor
namespace Go.Proofs.YtpfmhibdmehlcaaGreatDoor
open Go.RowKit
set_option linter.unusedVariables false
set_option linter.unusedSimpArgs false
set_option maxRecDepth 100000
variable {w0 w : World} {r gm : Nat} {R : Rdr} {NL : List (ByteArray × Int)} {dv fv lv wv : Value} {CV : List Value} {GM : List Nat}
set_option maxHeartbeats 4000000 in
theorem labelled_nil (ao : Option Addr) (c : Nat) (w : World) : Calls Tryz.prog 53 #[.slice ao 0 c] w fun e w' => e = .returned (.tuple #[.slice none 0 0, .slice ao 0 c]) ∧ w' = w := by
 go_enter Tryz.func53, Tryz.ntmps53
 go_wp2_with fail
 refine wp_loop_rounds 1 ?_
 rw [rounds_succ]
 go_wp2
 refine bodyPost_ret (results_tmp2 rfl _ _ _) rfl ?_
 exact ⟨rfl, rfl⟩
theorem txt_noL {a b : ByteArray} (L : List UInt8) (hb : b.data.toList = L) (h : a ≠ b) : (a.toList == L) = false := by
 rw [← hb, ← ByteArray.toList_eq]
 exact txt_no h
structure Rdr.Ok (R : Rdr) : Prop where
 fs : R.fs.length ≤ 80000
 code : ∀ f ∈ R.fs, f.code.length ≤ 90000
 ws : R.ws.length ≤ 90000
 data : R.data.length ≤ 100000000000000
 wf : ∀ x ∈ R.ws, x.fn < R.fs.length
theorem code_any (g o n c : Nat) (ln : Int) (ps : List Pf) (B : Nat) (v : Value) (ls : List ByteArray) (h : RdG w0 w r R) (hP : FsAt w g o ps) (hn : n = ps.length) (hc : n ≤ c) (hnl : n ≤ 90000) (hv : w.ownsRow B 9 1 v ls.length (labs ls)) (hll : ls.length ≤ 90000) (hok : R.Ok) :
  Calls Tryz.prog 54 #[.pointer (some ⟨r, 0, none⟩), .int .i64 ln, v, .slice (some ⟨g, o, none⟩) n c] w (MethR w0 w r (codeP R ln ls ps)) := by
 by_cases hf : R.fs = []
 ·rw [codeP_nil R ln ls ps hf]
  exact codeG_nil ln v _ h hf
 ·obtain ⟨m, hm⟩ : ∃ m, R.fs.length = m + 1 := ⟨R.fs.length - 1, by have := List.length_pos_iff.2 hf; omega⟩
  obtain ⟨gs, f, hfs, hgl⟩ := snoc_of hm
  rw [codeP_snoc R ln ls ps gs f hfs]
  have h1 := hok.fs
  exact codeG g o n c ln ps B v ls gs f hfs h hP hn hc hnl hv (by omega) hll (hok.code f (by rw [hfs]; simp)) hok.ws
set_option maxHeartbeats 16000000 in
theorem lineG (ln : Int) (D : ByteArray) (hs : D.size ≤ 65536) (hG : Gs w) (h : RdG w0 w r R) (hok : R.Ok) :
  Calls Tryz.prog 36 #[.pointer (some ⟨r, 0, none⟩), .int .i64 ln, .string D] w (MethR w0 w r (lineP R ln (cutV D.data.toList))) := by
 have HCT := hid_of (cutG D hs w hG)
 have HG := hid_of h
 have HOK := hid_of hok
 have HKW := hid_of h.kept
 obtain ⟨O, hO⟩ := nmd (lineP R ln (cutV D.data.toList))
 have HO := hid_of hO
 rw [← hO]
 have HDS : Hid (D.data.toList.length ≤ 65536) := by show _ ≤ 65536; rw [← Lib.size_eq]; exact hs
 clear hO h hok hG hs
 go_enter Tryz.func36, Tryz.ntmps36
 go_wp2_with fail
 refine HCT.out.mono ?_
 rintro e w1 ⟨v, b, rfl, hk1, hcase⟩
 have HK1 := hid_of hk1
 clear hk1 HCT
 rcases hcase with ⟨rfl, ps, hps, hown⟩ | ⟨rfl, hno⟩
 ·have HPS := hid_of hps
  obtain ⟨hb1, hb2⟩ := cutV_bound hps
  have HBD : Hid (ps.length ≤ 65537 ∧ ∀ p ∈ ps, p.s.size ≤ 65536) := ⟨by have := HDS.out; omega, fun p hp => by have := HDS.out; have := hb2 p hp; omega⟩
  have HE0 : Hid (O = if (labP ps).1 = [] then headP R ln (labP ps).2 else codeP R ln (labP ps).1 (labP ps).2) := by
   show O = _
   rw [HO.out, hps]
   rfl
  have HOW := hid_of hown
  clear hps hb1 hb2 hown HPS HO
  by_cases hp0 : ps = []
  ·obtain ⟨a, c, hv⟩ := ownsRow_shape HOW.out
   have hv0 : v = .slice a 0 c := by rw [hv, hp0]; rfl
   subst hv0
   have HE : Hid (O = .good R) := by show O = _; rw [HE0.out, hp0]; rfl
   have HLN := hid_of (labelled_nil a c w1)
   clear hv HE0 hp0
   go_wp2_with fail
   refine HLN.out.mono ?_
   rintro e w2 ⟨rfl, hw⟩
   have hw := hw.symm
   subst hw
   go_wp2
   go_ret
   exact ⟨HKW.out.trans HK1.out, .inl ⟨R, HE.out, rfl, HG.out.same HK1.out, Kept.othG HK1.out⟩⟩
  ·obtain ⟨g, c, cs, hv, hnc, hg⟩ := own_is0 HOW.out (List.length_pos_iff.2 hp0)
   obtain ⟨n, hn⟩ := nmd (ps.length)
   rw [← hn] at hv hnc
   have how := HOW.out
   rw [hv, ← hn] at how
   have HLB := hid_of (labelledG g 0 n c ps w1 (fsAt_own (hn ▸ how)) hn (by have := HBD.out.1; omega) hnc)
   have HGG := hid_of hg
   subst hv
   have HNN := hid_of hn
   clear how hg hp0 HOW hnc hn
   go_wp2_with fail
   refine HLB.out.mono ?_
   rintro e w2 ⟨lbv, rv, rfl, hlo, ⟨o1, c1, hrv, hc1, hF⟩, hk2⟩
   have HK2 := hid_of (HK1.out.trans hk2)
   have hlen := labP_len ps
   have HG2 := hid_of (HG.out.same HK2.out)
   have HGG2 := hid_of (box_kept hk2 HGG.out id)
   have HF2 := hid_of (hF.kept hk2 id)
   obtain ⟨ls, hls⟩ := nmd ((labP ps).1)
   obtain ⟨qs, hqs⟩ := nmd ((labP ps).2)
   rw [← hls] at hlo hlen
   rw [← hqs] at hrv hc1 hlen
   rw [← hqs] at HF2
   rw [← hls, ← hqs] at HE0
   have HLO := hid_of hlo
   have HBB : Hid (ls.length + qs.length ≤ 65537 ∧ ∀ p ∈ qs, p.s.size ≤ 65536) := ⟨by have := HBD.out.1; omega, fun p hp => HBD.out.2 p (hlen.2 p hp)⟩
   obtain ⟨n1, hn1⟩ := nmd (qs.length)
   rw [← hn1] at hrv hc1
   have HN1 := hid_of hn1
   have HC1 := hid_of hc1
   obtain ⟨la, lc, hlv⟩ := ownsRow_shape hlo
   obtain ⟨nl, hnl⟩ := nmd (ls.length)
   rw [← hnl] at hlv
   have HNL := hid_of hnl
   have HLV := hid_of hlv
   subst hrv hlv
   have hn1I : (n1 : Int) ≤ 65537 := by have := HBB.out.1; have := HN1.out; omega
   have hnlI : (nl : Int) ≤ 65537 := by have := HBB.out.1; have := HNL.out; omega
   have HCD : Hid (Calls Tryz.prog 54 #[.pointer (some ⟨r, 0, none⟩), .int .i64 ln, .slice la nl lc, .slice (some ⟨g, o1, none⟩) n1 c1] w2 (MethR w0 w2 r (codeP R ln ls qs))) := code_any g o1 n1 c1 ln qs _ _ ls HG2.out HF2.out HN1.out HC1.out (by have := HBB.out.1; have := HN1.out; omega) HLO.out (by have := HBB.out.1; omega) HOK.out
   clear hlo hk2 hF hlen hls hqs hc1 hnl hn1 HLB HBD
   by_cases hl0 : ls = []
   ·have hz : nl = 0 := by rw [HNL.out, hl0]; rfl
    subst hz
    rw [if_pos hl0] at HE0
    cases qs with
    | nil =>
     have hz2 : n1 = 0 := HN1.out
     subst hz2
     have HE : Hid (O = .good R) := HE0.out
     clear HE0 hl0
     go_wp2
     go_ret
     exact ⟨HKW.out.trans HK2.out, .inl ⟨R, HE.out, rfl, HG2.out, Kept.othG HK2.out⟩⟩
    | cons p l =>
     have hp1 : (0 : Int) < (n1 : Int) := by have := HN1.out; simp only [List.length_cons] at this; omega
     have hp2 : ¬ (n1 : Int) = 0 := by omega
     have hp2' : ((n1 : Int) == 0) = false := by simp; omega
     have hc1I : (1 : Int) ≤ (c1 : Int) := by have := HC1.out; omega
     have p0 : w2.cell? ⟨g, o1, none⟩ = some (.int .i64 p.k) := HF2.out 0 _ rfl 0 _ rfl
     have p1 : w2.cell? ⟨g, o1 + 1, none⟩ = some (.string p.s) := HF2.out 0 _ rfl 1 _ rfl
     have HE1 : Hid (O = if p.k ≠ 0 then .bad 141 else if p.s = memB then memP R l else if p.s = datB then datP R l else if p.s = funB then funP R l else codeP R ln [] (p :: l)) := HE0.out
     clear HE0
     by_cases hk : p.k = 0
     ·rw [if_neg (not_not_intro hk)] at HE1
      rw [hk] at p0
      have HL1 := hid_of (show FsAt w2 g (if c1 = 1 then o1 else o1 + 4) l by
       split
       ·have h1 := HC1.out
        have h2 := HN1.out
        simp only [List.length_cons] at h2
        rw [show l = [] from List.length_eq_zero_iff.1 (by omega)]
        exact fun i p hp => by simp at hp
       ·exact HF2.out.drop 1)
      obtain ⟨o2, ho2⟩ := nmd ((if c1 = 1 then o1 else o1 + 4))
      rw [← ho2] at HL1
      obtain ⟨n2, hn2⟩ := nmd (n1 - 1)
      obtain ⟨c2, hc2⟩ := nmd (c1 - 1)
      have HS1 : Hid (c1 = 1 → Value.slice (some ({ block := g, off := o1 } : Addr)) (n1 - 1) 0 = .slice (some ⟨g, o2, none⟩) n2 c2) := fun h => by
       rw [hn2, hc2, ho2, if_pos h, h]
      have HS2 : Hid (¬ c1 = 1 → Value.slice (some ({ block := g, off := o1 + 4 } : Addr)) (n1 - 1) (c1 - 1) = .slice (some ⟨g, o2, none⟩) n2 c2) := fun h => by
       rw [hn2, hc2, ho2, if_neg h]
      have HN2 : Hid (n2 = l.length) := by have := HN1.out; simp only [List.length_cons] at this; show n2 = _; omega
      obtain ⟨dv, fv, lv, wv, gm, CV, GM, hX⟩ := HG2.out
      have HX := hid_of hX
      clear hX ho2 hn2 hc2 hl0
      by_cases hm : p.s = memB
      ·rw [if_pos hm] at HE1
       rw [hm] at p1
       have HM := hid_of (memoryG g o2 n2 c2 l cs HX.out HL1.out HGG2.out HN2.out (by have := HOK.out.fs; omega) (by have := HN2.out; have := HBB.out.1; simp only [List.length_cons] at this; omega))
       clear hm
       go_wp2_with fail
       ·rw [HS1.out (by assumption)]
        refine HM.out.mono ?_
        rintro e w3 hm
        rw [← HE1.out] at hm
        have HM3 := hid_of hm
        obtain ⟨_, ⟨R', _, rfl, _, _⟩ | ⟨k, _, rfl⟩⟩ := hm
        ·go_wp2
         go_ret
         exact HM3.out.from (Kept.othG HK2.out)
        ·go_wp2
         go_ret
         exact HM3.out.from (Kept.othG HK2.out)
       ·rw [HS2.out (by assumption)]
        refine HM.out.mono ?_
        rintro e w3 hm
        rw [← HE1.out] at hm
        have HM3 := hid_of hm
        obtain ⟨_, ⟨R', _, rfl, _, _⟩ | ⟨k, _, rfl⟩⟩ := hm
        ·go_wp2
         go_ret
         exact HM3.out.from (Kept.othG HK2.out)
        ·go_wp2
         go_ret
         exact HM3.out.from (Kept.othG HK2.out)
      rw [if_neg hm] at HE1
      by_cases hd : p.s = datB
      ·rw [if_pos hd] at HE1
       rw [hd] at p1
       have HM := hid_of (dataG g o2 n2 c2 l cs HX.out HL1.out HGG2.out HN2.out (by have := HOK.out.fs; omega) (by have := HN2.out; have := HBB.out.1; simp only [List.length_cons] at this; omega) (by have := HOK.out.data; omega) (fun q hq => HBB.out.2 q (List.mem_cons_of_mem _ hq)))
       clear hm hd
       go_wp2_with fail
       ·rw [HS1.out (by assumption)]
        refine HM.out.mono ?_
        rintro e w3 hm
        rw [← HE1.out] at hm
        have HM3 := hid_of hm
        obtain ⟨_, ⟨R', _, rfl, _, _⟩ | ⟨k, _, rfl⟩⟩ := hm
        ·go_wp2
         go_ret
         exact HM3.out.from (Kept.othG HK2.out)
        ·go_wp2
         go_ret
         exact HM3.out.from (Kept.othG HK2.out)
       ·rw [HS2.out (by assumption)]
        refine HM.out.mono ?_
        rintro e w3 hm
        rw [← HE1.out] at hm
        have HM3 := hid_of hm
        obtain ⟨_, ⟨R', _, rfl, _, _⟩ | ⟨k, _, rfl⟩⟩ := hm
        ·go_wp2
         go_ret
         exact HM3.out.from (Kept.othG HK2.out)
        ·go_wp2
         go_ret
         exact HM3.out.from (Kept.othG HK2.out)
      rw [if_neg hd] at HE1
      by_cases hf : p.s = funB
      ·rw [if_pos hf] at HE1
       rw [hf] at p1
       have HM := hid_of (functionG g o2 n2 c2 l cs HX.out HL1.out HGG2.out HN2.out HOK.out.fs (by have := HN2.out; have := HBB.out.1; simp only [List.length_cons] at this; omega) HOK.out.wf)
       clear hm hd hf
       go_wp2_with fail
       ·rw [HS1.out (by assumption)]
        refine HM.out.mono ?_
        rintro e w3 hm
        rw [← HE1.out] at hm
        have HM3 := hid_of hm
        obtain ⟨_, ⟨R', _, rfl, _, _⟩ | ⟨k, _, rfl⟩⟩ := hm
        ·go_wp2
         go_ret
         exact HM3.out.from (Kept.othG HK2.out)
        ·go_wp2
         go_ret
         exact HM3.out.from (Kept.othG HK2.out)
       ·rw [HS2.out (by assumption)]
        refine HM.out.mono ?_
        rintro e w3 hm
        rw [← HE1.out] at hm
        have HM3 := hid_of hm
        obtain ⟨_, ⟨R', _, rfl, _, _⟩ | ⟨k, _, rfl⟩⟩ := hm
        ·go_wp2
         go_ret
         exact HM3.out.from (Kept.othG HK2.out)
        ·go_wp2
         go_ret
         exact HM3.out.from (Kept.othG HK2.out)
      rw [if_neg hf] at HE1
      have e1 := txt_noL [109, 101, 109, 111, 114, 121] rfl hm
      have e2 := txt_noL [100, 97, 116, 97] rfl hd
      have e3 := txt_noL [102, 117, 110, 99] rfl hf
      have HCN : Hid (Calls Tryz.prog 54 #[.pointer (some ⟨r, 0, none⟩), .int .i64 ln, .slice none 0 0, .slice (some ⟨g, o1, none⟩) n1 c1] w2 (MethR w0 w2 r (codeP R ln [] (p :: l)))) := code_any g o1 n1 c1 ln (p :: l) 0 _ [] HG2.out HF2.out HN1.out HC1.out (by have := HBB.out.1; have := HN1.out; omega) (World.ownsRow_nil _ _ _ _) (by simp) HOK.out
      obtain ⟨ps', hps'⟩ := nmd (p.s)
      rw [← hps'] at p1 e1 e2 e3
      clear hm hd hf hps'
      go_wp2_with fail
      refine HCN.out.mono ?_
      rintro e w3 hm
      rw [← HE1.out] at hm
      have HM3 := hid_of hm
      obtain ⟨_, ⟨R', _, rfl, _, _⟩ | ⟨k, _, rfl⟩⟩ := hm
      ·go_wp2
       go_ret
       exact HM3.out.from (Kept.othG HK2.out)
      ·go_wp2
       go_ret
       exact HM3.out.from (Kept.othG HK2.out)
     ·have HE : Hid (O = .bad 141) := by
       show O = _
       rw [HE1.out, if_pos hk]
      have hk' : (p.k != 0) = true := by simp; exact hk
      obtain ⟨pk, hpk⟩ := nmd (p.k)
      rw [← hpk] at p0 hk'
      clear HE1 hl0 hk hpk
      go_wp2
      go_ret
      exact ⟨HKW.out.trans HK2.out, .inr ⟨_, HE.out, rfl⟩⟩
   ·have hz : (0 : Int) < (nl : Int) := by have := List.length_pos_iff.2 hl0; have := HNL.out; omega
    have hz2 : ¬ (nl : Int) = 0 := by omega
    have hz3 : ((nl : Int) == 0) = false := by simp; omega
    rw [if_neg hl0] at HE0
    clear hl0
    go_wp2_with fail
    refine HCD.out.mono ?_
    rintro e w3 hm
    rw [← HE0.out] at hm
    have HM3 := hid_of hm
    have hm2 := hm
    obtain ⟨_, ⟨R', _, rfl, _, _⟩ | ⟨k, _, rfl⟩⟩ := hm
    ·go_wp2
     go_ret
     exact HM3.out.from (Kept.othG HK2.out)
    ·go_wp2
     go_ret
     exact HM3.out.from (Kept.othG HK2.out)
 ·have HE : Hid (O = .bad 141) := by
   show O = _
   rw [HO.out, hno]
   rfl
  clear hno
  go_wp2
  go_ret
  exact ⟨HKW.out.trans HK1.out, .inr ⟨_, HE.out, rfl⟩⟩
end Go.Proofs.YtpfmhibdmehlcaaGreatDoor

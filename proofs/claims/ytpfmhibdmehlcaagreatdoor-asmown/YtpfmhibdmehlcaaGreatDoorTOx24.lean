import Derived.Test.YtpfmhibdmehlcaaGreatDoorTOx22
import Derived.Test.YtpfmhibdmehlcaaGreatDoorTOx23
namespace Go.Proofs.YtpfmhibdmehlcaaGreatDoor
open Go.RowKit
set_option linter.unusedVariables false
set_option linter.unusedSimpArgs false
set_option maxRecDepth 100000
def InsR (o : Option (Int × Int × ByteArray)) (w : World) (e : Ending) (w' : World) : Prop :=
 Kept (fun _ => False) w w' ∧ ((∃ op a s, o = some (op, a, s) ∧ e = .returned (.tuple #[.agg #[.int .i64 op, .int .i64 a], .string s, .bool true])) ∨ (o = none ∧ ∃ x0 x1 s, e = .returned (.tuple #[.agg #[.int .i64 x0, .int .i64 x1], .string s, .bool false])))
abbrev Z2 : Obj := .cells #[.int .i64 0, .int .i64 0] 48
theorem rowo_lt (n : Nat) (h : n < 46) : 0 ≤ (rowS insL (n : Int)).o ∧ (rowS insL (n : Int)).o ≤ 6 := by
 revert n
 decide +kernel
theorem cell_lt {w : World} {g o : Nat} {v : Value} (h : w.cell? ⟨g, o, none⟩ = some v) : g < w.heap.size := by
 rcases Nat.lt_or_ge g w.heap.size with h1 | h1
 ·exact h1
 ·exfalso
  have h2 : w.heap[g]? = none := Array.getElem?_eq_none h1
  simp [World.cell?, h2] at h
set_option maxHeartbeats 8000000 in
theorem instr_nil (v : Option Addr) (c : Nat) (w : World) : Calls Tryz.prog 75 #[.slice v 0 c] w (InsR none w) := by
 have hka : Kept (fun _ => False) w (w.alloc Z2) := (Kept.refl _ _).alloc _
 have HB := hid_of (heap_alloc_new w Z2)
 have HK := hid_of hka
 have HE : Hid ((none : Option (Int × Int × ByteArray)) = none) := rfl
 have HGX : Hid (w.heap.size = w.heap.size) := rfl
 clear hka
 go_enter Tryz.func75, Tryz.ntmps75
 go_upto_region 1 with fail
 generalize w.alloc Z2 = w1 at *
 obtain ⟨x, hx⟩ := nmd (w.heap.size)
 rw [← hx] at HB HGX ⊢
 have HXW : Hid (w.heap.size ≤ x) := by rw [hx]; exact Nat.le_refl _
 clear hx
 obtain ⟨b0, b1, bf0, bf1⟩ := look2 HB.out
 have hb6 := set_block _ _ 0 _ _ _ HB.out (.int .i64 0)
 have hb7 := set_block _ _ 1 _ _ _ hb6 (.int .i64 0)
 have HB7 := hid_of hb7
 have HK7 := hid_of (HK.out.step ((kept_set w1 x 0 (.int .i64 0)).trans (kept_set _ x 1 (.int .i64 0))) (fun i hi e => by have := HXW.out; omega))
 obtain ⟨d0, d1, df0, df1⟩ := look2 hb6
 clear hb6 hb7
 go_wp2
 all_goals
  refine bodyPost_ret (v := .tuple #[.agg #[(.int .i64 0), (.int .i64 0)], .string ⟨#[]⟩, .bool false]) ?_ rfl ⟨HK7.out, .inr ⟨rfl, _, _, _, rfl⟩⟩
  exact results_rowtt (by rfl) _ _ x 48 _ (0, 0) _ _ _ (by rfl) (by rfl) (by rfl) HB7.out Tryz.underlying48 rfl size51'
set_option maxHeartbeats 8000000 in
theorem instructionG (g o n c : Nat) (p : Pf) (l : List Pf) (w : World) (hP : FsAt w g o (p :: l)) (hn : n = l.length + 1) (hc : n ≤ c) (hnl : n ≤ 90000) :
  Calls Tryz.prog 75 #[.slice (some ⟨g, o, none⟩) n c] w (InsR (instrF (p :: l)) w) := by
 have hka : Kept (fun _ => False) w (w.alloc Z2) := (Kept.refl _ _).alloc _
 have HB := hid_of (heap_alloc_new w Z2)
 have HGX : Hid (¬ g = w.heap.size) := fun e => by
  have := cell_lt (hP 0 p rfl 0 _ rfl)
  omega
 have HP := hid_of (hP.kept hka id)
 have HK := hid_of hka
 have hcI : (1 : Int) ≤ (c : Int) := by omega
 have hcN : (1 : Int) ≤ (n : Int) := by omega
 have hnI : (n : Int) ≤ 90000 := by omega
 have HIE : Hid (instrF (p :: l) = if p.k = 0 then (match ixN insL p.s with | some n => operF n (rowS insL (n : Int)).o l | none => none) else none) := rfl
 obtain ⟨pk, ps, pn, pf⟩ := p
 simp only at HIE
 have p0 : (w.alloc Z2).cell? ⟨g, o, none⟩ = some (.int .i64 pk) := HP.out 0 _ rfl 0 _ rfl
 have p1 : (w.alloc Z2).cell? ⟨g, o + 1, none⟩ = some (.string ps) := HP.out 0 _ rfl 1 _ rfl
 have HN := hid_of (byname_any ps (w.alloc Z2))
 rw [named_ix] at HN
 obtain ⟨F, hF⟩ := nmd (instrF (⟨pk, ps, pn, pf⟩ :: l))
 rw [← hF] at HIE ⊢
 have HNL : Hid (n = l.length + 1) := hn
 have HCC : Hid (n ≤ c ∧ n ≤ 90000) := ⟨hc, hnl⟩
 clear hF hka hP hn hc hnl
 have hz0 : ¬ (n : Int) = 0 := by omega
 by_cases hk0 : pk = 0
 ·rw [if_pos hk0] at HIE
  subst hk0
  cases hix : ixN insL ps with
  | none =>
   rw [hix] at HIE HN
   have HE : Hid (F = none) := HIE.out
   clear hix HIE
   go_enter Tryz.func75, Tryz.ntmps75
   go_upto_region 1 with fail
   generalize w.alloc Z2 = w1 at *
   obtain ⟨x, hx⟩ := nmd (w.heap.size)
   rw [← hx] at HB HGX ⊢
   have HXW : Hid (w.heap.size ≤ x) := by rw [hx]; exact Nat.le_refl _
   clear hx
   go_wp2_with fail
   refine HN.out.mono ?_
   rintro e w2 ⟨rfl, hk2⟩
   have HK2 := hid_of (HK.out.trans hk2)
   have HP2 := hid_of (HP.out.kept hk2 id)
   have hb2 := box_kept hk2 HB.out id
   obtain ⟨b0, b1, bf0, bf1⟩ := look2 hb2
   have HB3 := hid_of (set_block _ _ 0 _ _ _ hb2 (.int .i64 0))
   have HK3 := hid_of (HK2.out.step (kept_set w2 x 0 (.int .i64 0)) (fun i hi e => by have := HXW.out; omega))
   clear hb2 hk2 HN HP HP2 HB HK HK2 p0 p1
   go_upto_region 4 with fail
   clear b0 b1 bf0 bf1
   generalize w2.setCell ⟨x, 0, none⟩ (.int .i64 0) = w3 at *
   have HB3' : Hid (w3.heap[x]? = some (.cells #[.int .i64 0, .int .i64 0] 48 (0, 0))) := HB3.out
   clear HB3
   obtain ⟨b0, b1, bf0, bf1⟩ := look2 HB3'.out
   have hb6 := set_block _ _ 0 _ _ _ HB3'.out (.int .i64 0)
   have hb7 := set_block _ _ 1 _ _ _ hb6 (.int .i64 0)
   have HB7 := hid_of hb7
   have HK7 := hid_of (HK3.out.step ((kept_set w3 x 0 (.int .i64 0)).trans (kept_set _ x 1 (.int .i64 0))) (fun i hi e => by have := HXW.out; omega))
   obtain ⟨d0, d1, df0, df1⟩ := look2 hb6
   clear hb6 hb7
   go_wp2
   all_goals
    refine bodyPost_ret (v := .tuple #[.agg #[(.int .i64 0), (.int .i64 0)], .string ⟨#[]⟩, .bool false]) ?_ rfl ⟨HK7.out, .inr ⟨HE.out, _, _, _, rfl⟩⟩
    exact results_rowtt (by rfl) _ _ x 48 _ (0, 0) _ _ _ (by rfl) (by rfl) (by rfl) HB7.out Tryz.underlying48 rfl size51'
  | some k =>
   rw [hix] at HIE HN
   have hk46 : k < 46 := ixN_lt hix
   have hkI : (k : Int) < 46 := by omega
   clear hix
   go_enter Tryz.func75, Tryz.ntmps75
   go_upto_region 1 with fail
   generalize w.alloc Z2 = w1 at *
   obtain ⟨x, hx⟩ := nmd (w.heap.size)
   rw [← hx] at HB HGX ⊢
   have HXW : Hid (w.heap.size ≤ x) := by rw [hx]; exact Nat.le_refl _
   clear hx
   go_wp2_with fail
   refine HN.out.mono ?_
   rintro e w2 ⟨rfl, hk2⟩
   have HK2 := hid_of (HK.out.trans hk2)
   have HP2 := hid_of (HP.out.kept hk2 id)
   have hb2 := box_kept hk2 HB.out id
   obtain ⟨b0, b1, bf0, bf1⟩ := look2 hb2
   have HB3 := hid_of (set_block _ _ 0 _ _ _ hb2 (.int .i64 (k : Int)))
   have HK3 := hid_of (HK2.out.step (kept_set w2 x 0 (.int .i64 (k : Int))) (fun i hi e => by have := HXW.out; omega))
   have HP3 := hid_of (HP2.out.kept (kept_set w2 x 0 (.int .i64 (k : Int))) (fun e => HGX.out e))
   clear hb2 hk2 HN HP HP2 HB HK HK2 p0 p1
   go_upto_region 6 with fail
   clear b0 b1 bf0 bf1
   generalize w2.setCell ⟨x, 0, none⟩ (.int .i64 (k : Int)) = w3 at *
   have HB3' : Hid (w3.heap[x]? = some (.cells #[.int .i64 (k : Int), .int .i64 0] 48 (0, 0))) := HB3.out
   clear HB3
   obtain ⟨b0, b1, bf0, bf1⟩ := look2 HB3'.out
   have HO := hid_of (of_any (k : Int) w3 (by omega) (by omega))
   obtain ⟨sh, hsh⟩ := nmd (rowS insL (k : Int))
   have hkd := rowo_lt k hk46
   rw [← hsh] at HO HIE hkd
   clear hsh
   obtain ⟨nm, kd, tt, gg⟩ := sh
   simp only at HIE hkd
   obtain ⟨hkd0, hkd6⟩ := hkd
   have HO' : Hid (Calls Tryz.prog 66 #[.int .i64 (k : Int)] w3 fun e w' => e = .returned (.tuple #[.agg #[.string nm, .int .i64 kd, .int .i64 tt, .int .i64 gg], .bool (isRow insL (k : Int))]) ∧ Kept (fun _ => False) w3 w') := HO.out
   clear HO hk46 hkI
   go_wp2_with fail
   refine HO'.out.mono ?_
   rintro e w4 ⟨rfl, hk4⟩
   have hka : Kept (fun _ => False) w4 (w4.alloc (.cells #[.string nm, .int .i64 kd, .int .i64 tt, .int .i64 gg] 147)) := (Kept.refl _ _).alloc _
   have HSX := hid_of (heap_alloc_new w4 (.cells #[.string nm, .int .i64 kd, .int .i64 tt, .int .i64 gg] 147))
   have HBX := hid_of (box_kept (hk4.trans hka) HB3'.out id)
   have HKX := hid_of (HK3.out.trans (hk4.trans hka))
   have HP5 := hid_of (HP3.out.kept (hk4.trans hka) id)
   clear hka hk4 HO' HB3' HK3 HP3 b0 b1 bf0 bf1
   go_upto_region 7 with fail
   generalize w4.alloc (.cells #[.string nm, .int .i64 kd, .int .i64 tt, .int .i64 gg] 147) = w5 at *
   generalize w4.heap.size = gs at *
   obtain ⟨o1, ho1⟩ := nmd ((if c = 1 then o else o + 4))
   obtain ⟨n1, hn1⟩ := nmd (n - 1)
   obtain ⟨c1, hc1⟩ := nmd (c - 1)
   have HPL : Hid (FsAt w5 g o1 l) := by
    show FsAt w5 g o1 l
    rw [ho1]
    split
    ·have h1 := HNL.out
     have h2 := HCC.out.1
     rw [show l = [] from List.length_eq_zero_iff.1 (by omega)]
     exact fun i p hp => by simp at hp
    ·exact HP5.out.drop 1
   have HN1 : Hid (n1 = l.length) := by have := HNL.out; show n1 = _; omega
   have HNC : Hid (n1 = n - 1 ∧ c1 = c - 1) := ⟨hn1, hc1⟩
   have HO1 := hid_of ho1
   clear ho1 HP5
   have s1 := cell_block _ _ 1 _ _ _ HSX.out
   have hn1I : (n1 : Int) ≤ 90000 := by omega
   go_upto_region 8 with fail
   rw [show n - 1 = n1 from HNC.out.1.symm, show c - 1 = c1 from HNC.out.2.symm, show (if c = 1 then some ({ block := g, off := o } : Addr) else some { block := g, off := o + 4 }) = some ⟨g, o1, none⟩ by rw [HO1.out]; split <;> rfl]
   clear hn1 hc1 hcI hcN hnI hz0
   by_cases hkz : kd = 0
   ·subst hkz
    cases l with
    | nil =>
     have HFI : Hid (F = some ((k : Int), 0, ⟨#[]⟩)) := HIE.out
     have hn0 : n1 = 0 := HN1.out
     subst hn0
     clear HPL HSX HIE hkd0 hkd6
     obtain ⟨b0, b1, bf0, bf1⟩ := look2 HBX.out
     have hb6 := set_block _ _ 0 _ _ _ HBX.out (.int .i64 (k : Int))
     have hb7 := set_block _ _ 1 _ _ _ hb6 (.int .i64 0)
     have HB7 := hid_of hb7
     have HK7 := hid_of (HKX.out.step ((kept_set w5 x 0 (.int .i64 (k : Int))).trans (kept_set _ x 1 (.int .i64 0))) (fun i hi e => by have := HXW.out; omega))
     obtain ⟨d0, d1, df0, df1⟩ := look2 hb6
     clear hb6 hb7
     go_wp2
     all_goals
      refine bodyPost_ret (v := .tuple #[.agg #[(.int .i64 (k : Int)), (.int .i64 0)], .string ⟨#[]⟩, .bool true]) ?_ rfl ⟨HK7.out, .inl ⟨_, _, _, HFI.out, rfl⟩⟩
      exact results_rowtt (by rfl) _ _ x 48 _ (0, 0) _ _ _ (by rfl) (by rfl) (by rfl) HB7.out Tryz.underlying48 rfl size51'
    | cons q ql =>
     have HE : Hid (F = none) := by have := HIE.out; rw [operF, if_pos rfl] at this; exact this
     have hn0 : ((n1 : Int) == 0) = false := by have := HN1.out; simp only [List.length_cons] at this; simp; omega
     clear HPL HSX HIE hkd0 hkd6
     obtain ⟨b0, b1, bf0, bf1⟩ := look2 HBX.out
     have hb6 := set_block _ _ 0 _ _ _ HBX.out (.int .i64 (k : Int))
     have hb7 := set_block _ _ 1 _ _ _ hb6 (.int .i64 0)
     have HB7 := hid_of hb7
     have HK7 := hid_of (HKX.out.step ((kept_set w5 x 0 (.int .i64 (k : Int))).trans (kept_set _ x 1 (.int .i64 0))) (fun i hi e => by have := HXW.out; omega))
     obtain ⟨d0, d1, df0, df1⟩ := look2 hb6
     clear hb6 hb7
     go_wp2
     all_goals
      refine bodyPost_ret (v := .tuple #[.agg #[(.int .i64 (k : Int)), (.int .i64 0)], .string ⟨#[]⟩, .bool false]) ?_ rfl ⟨HK7.out, .inr ⟨HE.out, _, _, _, rfl⟩⟩
      exact results_rowtt (by rfl) _ _ x 48 _ (0, 0) _ _ _ (by rfl) (by rfl) (by rfl) HB7.out Tryz.underlying48 rfl size51'
   have hkz' : (kd == 0) = false := by simp; exact hkz
   have hkaa : Kept (fun _ => False) w5 (w5.alloc (.cells #[.int .i64 1] 3)) := (Kept.refl _ _).alloc _
   have hbaa := heap_alloc_new w5 (.cells #[.int .i64 1] 3)
   have HFa := hid_of (fitsG g o1 n1 c1 w5.heap.size 1 1 l [1] (w5.alloc (.cells #[.int .i64 1] 3)) (HPL.out.kept hkaa id) (fun i y hy => by
    rw [cell_block _ _ i _ _ _ hbaa]
    rcases i with _ | i <;> simp at hy ⊢ <;> exact hy) HN1.out rfl (by have := HCC.out; have := HNC.out; omega) (by omega))
   by_cases hl1 : l.map Pf.k = [1]
   ·rw [decide_eq_true hl1] at HFa
    obtain ⟨q, rfl⟩ : ∃ q, l = [q] := by
     have := congrArg List.length hl1
     simp only [List.length_map, List.length_cons, List.length_nil] at this
     exact List.length_eq_one_iff.1 this
    obtain ⟨qk, qs, qn, qf⟩ := q
    have hqk : qk = 1 := by simpa using hl1
    subst hqk
    have HFI : Hid (F = some ((k : Int), qn, ⟨#[]⟩)) := by
     have := HIE.out
     rw [operF, if_neg hkz, if_pos rfl, if_pos rfl] at this
     exact this
    have hn0 : n1 = 1 := HN1.out
    subst hn0
    clear HIE hkd0 hkd6 hl1 hkz
    go_wp2_with fail
    refine HFa.out.mono ?_
    rintro e w6 ⟨rfl, hk6⟩
    have hkk := hkaa.trans hk6
    have HBn := hid_of (box_kept hkk HBX.out id)
    have HSn := hid_of (box_kept hkk HSX.out id)
    have HKn := hid_of (HKX.out.trans hkk)
    have HPn := hid_of (HPL.out.kept hkk id)
    clear hkk hk6 hkaa hbaa HFa HBX HSX HKX HPL
    have HBX := HBn
    have HSX := HSn
    have HKX := HKn
    have HPL := HPn
    clear HBn HSn HKn HPn
    have q2 : w6.cell? ⟨g, o1 + 2, none⟩ = some (.int .i64 qn) := by
     have := HPL.out 0 _ rfl 2 (.int .i64 qn) rfl
     simpa using this
    obtain ⟨b0, b1, bf0, bf1⟩ := look2 HBX.out
    have HBT := hid_of (set_block _ _ 1 _ _ _ HBX.out (.int .i64 qn))
    have HKT := hid_of (HKX.out.step (kept_set w6 x 1 (.int .i64 qn)) (fun i hi e => by have := HXW.out; omega))
    clear HPL HSX HBX HKX s1
    go_upto_region 12 with fail
    generalize w6.setCell ⟨x, 1, none⟩ (.int .i64 qn) = w7 at *
    have HBT' : Hid (w7.heap[x]? = some (.cells #[.int .i64 (k : Int), .int .i64 qn] 48 (0, 0))) := HBT.out
    clear b0 b1 bf0 bf1 HBT q2
    obtain ⟨b0, b1, bf0, bf1⟩ := look2 HBT'.out
    have hb6 := set_block _ _ 0 _ _ _ HBT'.out (.int .i64 (k : Int))
    have hb7 := set_block _ _ 1 _ _ _ hb6 (.int .i64 qn)
    have HB7 := hid_of hb7
    have HK7 := hid_of (HKT.out.step ((kept_set w7 x 0 (.int .i64 (k : Int))).trans (kept_set _ x 1 (.int .i64 qn))) (fun i hi e => by have := HXW.out; omega))
    obtain ⟨d0, d1, df0, df1⟩ := look2 hb6
    clear hb6 hb7
    go_wp2
    all_goals
     refine bodyPost_ret (v := .tuple #[.agg #[(.int .i64 (k : Int)), (.int .i64 qn)], .string ⟨#[]⟩, .bool true]) ?_ rfl ⟨HK7.out, .inl ⟨_, _, _, HFI.out, rfl⟩⟩
     exact results_rowtt (by rfl) _ _ x 48 _ (0, 0) _ _ _ (by rfl) (by rfl) (by rfl) HB7.out Tryz.underlying48 rfl size51'
   rw [decide_eq_false hl1] at HFa
   go_wp2_with fail
   refine HFa.out.mono ?_
   rintro e w6 ⟨rfl, hk6⟩
   have hkk := hkaa.trans hk6
   have HBn := hid_of (box_kept hkk HBX.out id)
   have HSn := hid_of (box_kept hkk HSX.out id)
   have HKn := hid_of (HKX.out.trans hkk)
   have HPn := hid_of (HPL.out.kept hkk id)
   clear hkk hk6 hkaa hbaa HFa HBX HSX HKX HPL
   have HBX := HBn
   have HSX := HSn
   have HKX := HKn
   have HPL := HPn
   clear HBn HSn HKn HPn
   have hkab : Kept (fun _ => False) w6 (w6.alloc (.cells #[.int .i64 0] 3)) := (Kept.refl _ _).alloc _
   have hbab := heap_alloc_new w6 (.cells #[.int .i64 0] 3)
   have HFb := hid_of (fitsG g o1 n1 c1 w6.heap.size 1 1 l [0] (w6.alloc (.cells #[.int .i64 0] 3)) (HPL.out.kept hkab id) (fun i y hy => by
    rw [cell_block _ _ i _ _ _ hbab]
    rcases i with _ | i <;> simp at hy ⊢ <;> exact hy) HN1.out rfl (by have := HCC.out; have := HNC.out; omega) (by omega))
   by_cases hl0 : l.map Pf.k = [0]
   ·rw [decide_eq_true hl0] at HFb
    obtain ⟨q, rfl⟩ : ∃ q, l = [q] := by
     have := congrArg List.length hl0
     simp only [List.length_map, List.length_cons, List.length_nil] at this
     exact List.length_eq_one_iff.1 this
    obtain ⟨qk, qs, qn, qf⟩ := q
    have hqk : qk = 0 := by simpa using hl0
    subst hqk
    have HOP : Hid (F = if kd = 3 ∨ kd = 4 then some ((k : Int), 0, qs) else if kd = 5 then (match ixN sysL qs with | some c => some ((k : Int), (c : Int), ⟨#[]⟩) | none => none) else none) := by
     have := HIE.out
     rw [operF, if_neg hkz, if_pos rfl, if_neg (show ¬ (0 : Int) = 1 by decide), if_pos rfl] at this
     exact this
    have hn0 : n1 = 1 := HN1.out
    subst hn0
    clear HIE hl0 hl1 s1
    go_wp2_with fail
    refine HFb.out.mono ?_
    rintro e w8 ⟨rfl, hk6⟩
    have hkk := hkab.trans hk6
    have HBn := hid_of (box_kept hkk HBX.out id)
    have HSn := hid_of (box_kept hkk HSX.out id)
    have HKn := hid_of (HKX.out.trans hkk)
    have HPn := hid_of (HPL.out.kept hkk id)
    clear hkk hk6 hkab hbab HFb HBX HSX HKX HPL
    have HBX := HBn
    have HSX := HSn
    have HKX := HKn
    have HPL := HPn
    clear HBn HSn HKn HPn
    have q1 : w8.cell? ⟨g, o1 + 1, none⟩ = some (.string qs) := by
     have := HPL.out 0 _ rfl 1 (.string qs) rfl
     simpa using this
    have q0 := trivial
    have s1 := cell_block _ _ 1 _ _ _ HSX.out
    by_cases hk34 : kd = 3 ∨ kd = 4
    ·rw [if_pos hk34] at HOP
     clear hkz hkz' hkd0 hkd6
     rcases hk34 with rfl | rfl
     ·go_upto_region 18 with fail
      have hkd : Kept (fun _ => False) w8 w8.drew := (Kept.refl _ _).drew
      have HBD := hid_of (box_kept hkd HBX.out id)
      have HKD := hid_of (HKX.out.trans hkd)
      have HQD := hid_of (hkd.cell q1 id)
      clear hkd q0 q1 s1 HBX HKX HSX HPL
      refine wp_region_held_drew (S := fun w' => Kept (fun q => q = x) w8.drew w') (by kernel_rfl) (Kept.refl _ _) (fun hHeld => ?_)
      generalize w8.drew = wd at *
      have HSM : Hid (∀ w', Kept (fun q => q = x) wd w' → w'.cell? ⟨g, o1 + 1, none⟩ = some (.string qs)) := fun w' hw => hw.cell HQD.out HGX.out
      obtain ⟨b0, b1, bf0, bf1⟩ := look2 HBD.out
      have hb6 := set_block _ _ 0 _ _ _ HBD.out (.int .i64 (k : Int))
      have hb7 := set_block _ _ 1 _ _ _ hb6 (.int .i64 0)
      have HB7 := hid_of hb7
      have HKS := hid_of ((hHeld.setCell (p := ⟨x, 0, none⟩) (.inr rfl) (.int .i64 (k : Int))).setCell (p := ⟨x, 1, none⟩) (.inr rfl) (.int .i64 0))
      have HK7 := hid_of (HKD.out.step ((kept_set wd x 0 (.int .i64 (k : Int))).trans (kept_set _ x 1 (.int .i64 0))) (fun i hi e => by have := HXW.out; omega))
      obtain ⟨d0, d1, df0, df1⟩ := look2 hb6
      clear hb6 hb7
      iterate 3
       refine tkn (v := ?_) 1 rfl ?_ ?_; rotate_left 1
       ·intro w hSw; go_simp; try with_reducible rfl
       try simp only [Act.put, tdy]
      iterate 1
       refine tkn (v := ?_) 4 rfl ?_ ?_; rotate_left 1
       ·intro w hSw; have s1 := HSM.out w hSw; go_simp; try with_reducible rfl
       try simp only [Act.put, tdy]
      refine rdy 0 rfl (fun K hK => ?_)
      go_simp
      refine hK.out _ _ hHeld (fun hHeld => ?_)
      clear hK K
      try simp only [Act.put, tdy]
      obtain ⟨b0, b1, bf0, bf1⟩ := look2 HBD.out
      refine rdy 5 rfl (fun K hK => ?_)
      go_simp
      refine hK.out _ _ HKS.out (fun hHeld => ?_)
      clear hK K
      try simp only [Act.put, tdy]
      refine rdy 6 rfl (fun K hK => ?_)
      go_simp
      refine hK.out _ _ hHeld (fun hHeld => ?_)
      clear hK K
      try simp only [Act.put, tdy]
      refine rdy 7 rfl (fun K hK => ?_)
      go_simp
      refine hK.out _ _ hHeld (fun hHeld => ?_)
      clear hK K
      try simp only [Act.put, tdy]
      refine wpAnyH_done (by kernel_rfl) ?_ _
      go_wp2
      all_goals
       refine bodyPost_ret (v := .tuple #[.agg #[.int .i64 (k : Int), .int .i64 0], .string qs, .bool true]) ?_ rfl ⟨HK7.out, .inl ⟨_, _, _, HOP.out, rfl⟩⟩
       exact results_rowtt (by rfl) _ _ x 48 _ (0, 0) _ _ _ (by rfl) (by rfl) (by rfl) HB7.out Tryz.underlying48 rfl size51'
     ·go_upto_region 18 with fail
      have hkd : Kept (fun _ => False) w8 w8.drew := (Kept.refl _ _).drew
      have HBD := hid_of (box_kept hkd HBX.out id)
      have HKD := hid_of (HKX.out.trans hkd)
      have HQD := hid_of (hkd.cell q1 id)
      clear hkd q0 q1 s1 HBX HKX HSX HPL
      refine wp_region_held_drew (S := fun w' => Kept (fun q => q = x) w8.drew w') (by kernel_rfl) (Kept.refl _ _) (fun hHeld => ?_)
      generalize w8.drew = wd at *
      have HSM : Hid (∀ w', Kept (fun q => q = x) wd w' → w'.cell? ⟨g, o1 + 1, none⟩ = some (.string qs)) := fun w' hw => hw.cell HQD.out HGX.out
      obtain ⟨b0, b1, bf0, bf1⟩ := look2 HBD.out
      have hb6 := set_block _ _ 0 _ _ _ HBD.out (.int .i64 (k : Int))
      have hb7 := set_block _ _ 1 _ _ _ hb6 (.int .i64 0)
      have HB7 := hid_of hb7
      have HKS := hid_of ((hHeld.setCell (p := ⟨x, 0, none⟩) (.inr rfl) (.int .i64 (k : Int))).setCell (p := ⟨x, 1, none⟩) (.inr rfl) (.int .i64 0))
      have HK7 := hid_of (HKD.out.step ((kept_set wd x 0 (.int .i64 (k : Int))).trans (kept_set _ x 1 (.int .i64 0))) (fun i hi e => by have := HXW.out; omega))
      obtain ⟨d0, d1, df0, df1⟩ := look2 hb6
      clear hb6 hb7
      iterate 3
       refine tkn (v := ?_) 1 rfl ?_ ?_; rotate_left 1
       ·intro w hSw; go_simp; try with_reducible rfl
       try simp only [Act.put, tdy]
      iterate 1
       refine tkn (v := ?_) 4 rfl ?_ ?_; rotate_left 1
       ·intro w hSw; have s1 := HSM.out w hSw; go_simp; try with_reducible rfl
       try simp only [Act.put, tdy]
      refine rdy 0 rfl (fun K hK => ?_)
      go_simp
      refine hK.out _ _ hHeld (fun hHeld => ?_)
      clear hK K
      try simp only [Act.put, tdy]
      obtain ⟨b0, b1, bf0, bf1⟩ := look2 HBD.out
      refine rdy 5 rfl (fun K hK => ?_)
      go_simp
      refine hK.out _ _ HKS.out (fun hHeld => ?_)
      clear hK K
      try simp only [Act.put, tdy]
      refine rdy 6 rfl (fun K hK => ?_)
      go_simp
      refine hK.out _ _ hHeld (fun hHeld => ?_)
      clear hK K
      try simp only [Act.put, tdy]
      refine rdy 7 rfl (fun K hK => ?_)
      go_simp
      refine hK.out _ _ hHeld (fun hHeld => ?_)
      clear hK K
      try simp only [Act.put, tdy]
      refine wpAnyH_done (by kernel_rfl) ?_ _
      go_wp2
      all_goals
       refine bodyPost_ret (v := .tuple #[.agg #[.int .i64 (k : Int), .int .i64 0], .string qs, .bool true]) ?_ rfl ⟨HK7.out, .inl ⟨_, _, _, HOP.out, rfl⟩⟩
       exact results_rowtt (by rfl) _ _ x 48 _ (0, 0) _ _ _ (by rfl) (by rfl) (by rfl) HB7.out Tryz.underlying48 rfl size51'
    ·rw [if_neg hk34] at HOP
     by_cases hk5 : kd = 5
     ·rw [if_pos hk5] at HOP
      subst hk5
      clear hkz hkz' hkd0 hkd6 hk34
      have HSY := hid_of (sysname_any qs w8)
      rw [named_ix] at HSY
      cases hsx : ixN sysL qs with
      | some cc =>
       rw [hsx] at HSY HOP
       have HFI : Hid (F = some ((k : Int), (cc : Int), ⟨#[]⟩)) := HOP.out
       clear hsx HOP
       go_wp2_with fail
       refine HSY.out.mono ?_
       rintro e w9 ⟨rfl, hk9⟩
       have HB9 := hid_of (box_kept hk9 HBX.out id)
       have HK9 := hid_of (HKX.out.trans hk9)
       obtain ⟨b0, b1, bf0, bf1⟩ := look2 HB9.out
       clear HSY hk9 HBX HKX HSX HPL q0 q1 s1
       have HBT := hid_of (set_block _ _ 1 _ _ _ HB9.out (.int .i64 (cc : Int)))
       have HKT := hid_of (HK9.out.step (kept_set w9 x 1 (.int .i64 (cc : Int))) (fun i hi e => by have := HXW.out; omega))
       go_upto_region 21 with fail
       generalize w9.setCell ⟨x, 1, none⟩ (.int .i64 (cc : Int)) = w10 at *
       have HBT' : Hid (w10.heap[x]? = some (.cells #[.int .i64 (k : Int), .int .i64 (cc : Int)] 48 (0, 0))) := HBT.out
       clear b0 b1 bf0 bf1 HBT
       obtain ⟨b0, b1, bf0, bf1⟩ := look2 HBT'.out
       have hb6 := set_block _ _ 0 _ _ _ HBT'.out (.int .i64 (k : Int))
       have hb7 := set_block _ _ 1 _ _ _ hb6 (.int .i64 (cc : Int))
       have HB7 := hid_of hb7
       have HK7 := hid_of (HKT.out.step ((kept_set w10 x 0 (.int .i64 (k : Int))).trans (kept_set _ x 1 (.int .i64 (cc : Int)))) (fun i hi e => by have := HXW.out; omega))
       obtain ⟨d0, d1, df0, df1⟩ := look2 hb6
       clear hb6 hb7
       go_wp2
       all_goals
        refine bodyPost_ret (v := .tuple #[.agg #[(.int .i64 (k : Int)), (.int .i64 (cc : Int))], .string ⟨#[]⟩, .bool true]) ?_ rfl ⟨HK7.out, .inl ⟨_, _, _, HFI.out, rfl⟩⟩
        exact results_rowtt (by rfl) _ _ x 48 _ (0, 0) _ _ _ (by rfl) (by rfl) (by rfl) HB7.out Tryz.underlying48 rfl size51'
      | none =>
       rw [hsx] at HSY HOP
       have HE : Hid (F = none) := HOP.out
       clear hsx HOP
       go_wp2_with fail
       refine HSY.out.mono ?_
       rintro e w9 ⟨rfl, hk9⟩
       have HB9 := hid_of (box_kept hk9 HBX.out id)
       have HK9 := hid_of (HKX.out.trans hk9)
       obtain ⟨b0, b1, bf0, bf1⟩ := look2 HB9.out
       clear HSY hk9 HBX HKX HSX HPL q0 q1 s1
       have HBT := hid_of (set_block _ _ 1 _ _ _ HB9.out (.int .i64 0))
       have HKT := hid_of (HK9.out.step (kept_set w9 x 1 (.int .i64 0)) (fun i hi e => by have := HXW.out; omega))
       go_upto_region 21 with fail
       generalize w9.setCell ⟨x, 1, none⟩ (.int .i64 0) = w10 at *
       have HBT' : Hid (w10.heap[x]? = some (.cells #[.int .i64 (k : Int), .int .i64 0] 48 (0, 0))) := HBT.out
       clear b0 b1 bf0 bf1 HBT
       obtain ⟨b0, b1, bf0, bf1⟩ := look2 HBT'.out
       have hb6 := set_block _ _ 0 _ _ _ HBT'.out (.int .i64 (k : Int))
       have hb7 := set_block _ _ 1 _ _ _ hb6 (.int .i64 0)
       have HB7 := hid_of hb7
       have HK7 := hid_of (HKT.out.step ((kept_set w10 x 0 (.int .i64 (k : Int))).trans (kept_set _ x 1 (.int .i64 0))) (fun i hi e => by have := HXW.out; omega))
       obtain ⟨d0, d1, df0, df1⟩ := look2 hb6
       clear hb6 hb7
       go_wp2
       all_goals
        refine bodyPost_ret (v := .tuple #[.agg #[(.int .i64 (k : Int)), (.int .i64 0)], .string ⟨#[]⟩, .bool false]) ?_ rfl ⟨HK7.out, .inr ⟨HE.out, _, _, _, rfl⟩⟩
        exact results_rowtt (by rfl) _ _ x 48 _ (0, 0) _ _ _ (by rfl) (by rfl) (by rfl) HB7.out Tryz.underlying48 rfl size51'
     ·rw [if_neg hk5] at HOP
      have HE : Hid (F = none) := HOP.out
      have e3 : (kd == 3) = false := by simp; omega
      have e4 : (kd == 4) = false := by simp; omega
      have e5 : (kd == 5) = false := by simp; omega
      clear HOP hk34 hk5 hkz hkd0 hkd6
      obtain ⟨b0, b1, bf0, bf1⟩ := look2 HBX.out
      have hb6 := set_block _ _ 0 _ _ _ HBX.out (.int .i64 (k : Int))
      have hb7 := set_block _ _ 1 _ _ _ hb6 (.int .i64 0)
      have HB7 := hid_of hb7
      have HK7 := hid_of (HKX.out.step ((kept_set w8 x 0 (.int .i64 (k : Int))).trans (kept_set _ x 1 (.int .i64 0))) (fun i hi e => by have := HXW.out; omega))
      obtain ⟨d0, d1, df0, df1⟩ := look2 hb6
      clear hb6 hb7
      go_wp2
      all_goals
       refine bodyPost_ret (v := .tuple #[.agg #[(.int .i64 (k : Int)), (.int .i64 0)], .string ⟨#[]⟩, .bool false]) ?_ rfl ⟨HK7.out, .inr ⟨HE.out, _, _, _, rfl⟩⟩
       exact results_rowtt (by rfl) _ _ x 48 _ (0, 0) _ _ _ (by rfl) (by rfl) (by rfl) HB7.out Tryz.underlying48 rfl size51'
   have HE : Hid (F = none) := by
    have := HIE.out
    match l, hl0, hl1 with
    | [], _, _ => rw [operF, if_neg hkz] at this; exact this
    | [q], h0, h1 =>
     rw [operF, if_neg hkz, if_pos rfl, if_neg (fun e => h1 (by simp [e])), if_neg (fun e => h0 (by simp [e]))] at this
     exact this
    | q :: q' :: r, _, _ => rw [operF, if_neg hkz, if_neg (by simp)] at this; exact this
   rw [decide_eq_false hl0] at HFb
   clear HIE hl0 hl1 s1 hkz hkd0 hkd6
   go_wp2_with fail
   refine HFb.out.mono ?_
   rintro e w8 ⟨rfl, hk6⟩
   have hkk := hkab.trans hk6
   have HBn := hid_of (box_kept hkk HBX.out id)
   have HSn := hid_of (box_kept hkk HSX.out id)
   have HKn := hid_of (HKX.out.trans hkk)
   have HPn := hid_of (HPL.out.kept hkk id)
   clear hkk hk6 hkab hbab HFb HBX HSX HKX HPL
   have HBX := HBn
   have HSX := HSn
   have HKX := HKn
   have HPL := HPn
   clear HBn HSn HKn HPn
   obtain ⟨b0, b1, bf0, bf1⟩ := look2 HBX.out
   have hb6 := set_block _ _ 0 _ _ _ HBX.out (.int .i64 (k : Int))
   have hb7 := set_block _ _ 1 _ _ _ hb6 (.int .i64 0)
   have HB7 := hid_of hb7
   have HK7 := hid_of (HKX.out.step ((kept_set w8 x 0 (.int .i64 (k : Int))).trans (kept_set _ x 1 (.int .i64 0))) (fun i hi e => by have := HXW.out; omega))
   obtain ⟨d0, d1, df0, df1⟩ := look2 hb6
   clear hb6 hb7
   go_wp2
   all_goals
    refine bodyPost_ret (v := .tuple #[.agg #[(.int .i64 (k : Int)), (.int .i64 0)], .string ⟨#[]⟩, .bool false]) ?_ rfl ⟨HK7.out, .inr ⟨HE.out, _, _, _, rfl⟩⟩
    exact results_rowtt (by rfl) _ _ x 48 _ (0, 0) _ _ _ (by rfl) (by rfl) (by rfl) HB7.out Tryz.underlying48 rfl size51'
 ·rw [if_neg hk0] at HIE
  have HE : Hid (F = none) := HIE.out
  clear HIE HN
  have hk0' : (pk != 0) = true := by simp; exact hk0
  go_enter Tryz.func75, Tryz.ntmps75
  go_upto_region 1 with fail
  generalize w.alloc Z2 = w1 at *
  obtain ⟨x, hx⟩ := nmd (w.heap.size)
  rw [← hx] at HB HGX ⊢
  have HXW : Hid (w.heap.size ≤ x) := by rw [hx]; exact Nat.le_refl _
  clear hx
  obtain ⟨b0, b1, bf0, bf1⟩ := look2 HB.out
  have hb6 := set_block _ _ 0 _ _ _ HB.out (.int .i64 0)
  have hb7 := set_block _ _ 1 _ _ _ hb6 (.int .i64 0)
  have HB7 := hid_of hb7
  have HK7 := hid_of (HK.out.step ((kept_set w1 x 0 (.int .i64 0)).trans (kept_set _ x 1 (.int .i64 0))) (fun i hi e => by have := HXW.out; omega))
  obtain ⟨d0, d1, df0, df1⟩ := look2 hb6
  clear hb6 hb7
  go_wp2
  all_goals
   refine bodyPost_ret (v := .tuple #[.agg #[(.int .i64 0), (.int .i64 0)], .string ⟨#[]⟩, .bool false]) ?_ rfl ⟨HK7.out, .inr ⟨HE.out, _, _, _, rfl⟩⟩
   exact results_rowtt (by rfl) _ _ x 48 _ (0, 0) _ _ _ (by rfl) (by rfl) (by rfl) HB7.out Tryz.underlying48 rfl size51'
end Go.Proofs.YtpfmhibdmehlcaaGreatDoor

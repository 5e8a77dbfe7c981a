/-
  A line: code; two lines.
-/
import Derived.Test.YtkilngknklpadaaGreatDoorAi
namespace Go.Proofs.YtkilngknklpadaaGreatDoor
open Go.RowKit
set_option linter.unusedVariables false
set_option linter.unusedSimpArgs false
set_option maxRecDepth 100000

theorem RdB.same {w0 w w' : World} {r : Nat} {a b d : Int} {cv : Value} (h : RdB w0 w r a b d cv) (hk : Kept (fun _ => False) w w') : RdB w0 w' r a b d cv := by
  obtain ⟨fv, lv, mv, hb, hf⟩ := h.ex
  exact ⟨⟨fv, lv, mv, box_kept hk hb (fun f => f), hk.ownsRow hf (fun _ _ f => f)⟩, h.kept.trans hk, h.lo⟩
set_option maxHeartbeats 8000000 in
theorem code_ret (r g o c : Nat) (ln n0 a b d : Int) (w0 w : World) (h : RdB w0 w r a b d (.slice none 0 0)) (hP : PsAt w g o [⟨0, retB, n0⟩]) (hc : 1 ≤ c) :
    Calls Tryz.prog 33 #[.pointer (some ⟨r, 0, none⟩), .int .i64 ln, .slice none 0 0, .slice (some ⟨g, o, none⟩) 1 c] w fun e w' => e = .returned (.int .i64 0) ∧ ∃ cv, RdB w0 w' r a b d cv ∧ w'.ownsRow w0.heap.size 51 2 cv 1 [.int .i64 18, .int .i64 0] ∧ Oth w w' := by
  have HH := hid_of h
  have HP := hid_of hP
  have HC := hid_of hc
  have HBG : Hid (Calls Tryz.prog 55 #[.pointer (some ⟨r, 0, none⟩)] w fun e w' => e = .returned (.bool true) ∧ w' = w) := by
    obtain ⟨fv, lv, mv, hb, hf⟩ := h.ex
    obtain ⟨fa, fc, rfl⟩ := ownsRow_shape hf
    exact begun_one r _ _ _ _ _ _ fa fc w hb
  clear h hP hc
  go_enter Tryz.func33, Tryz.ntmps33
  go_wp2_with fail
  refine HBG.out.mono ?_
  rintro e w1 ⟨rfl, hw⟩
  have hw := hw.symm
  subst hw
  clear HBG
  go_wp2_with fail
  refine (instr_ret g o c n0 w HP.out HC.out).mono ?_
  rintro e w2 ⟨rfl, hk2⟩
  have hka : Kept (fun _ => False) w2 (w2.alloc (.cells #[.int .i64 18, .int .i64 0] 51)) := (Kept.refl _ _).alloc _
  have HX := hid_of (heap_alloc_new w2 (.cells #[.int .i64 18, .int .i64 0] 51))
  have HH3 := hid_of (HH.out.same (hk2.trans hka))
  have HO3 := hid_of (hk2.trans hka)
  have HP3 := hid_of (HP.out.kept (hk2.trans hka) (fun f => f))
  clear hk2 hka HH HP
  go_upto_region 4 with fail
  generalize w2.alloc (.cells #[.int .i64 18, .int .i64 0] 51) = w3 at *
  generalize w2.heap.size = gx at *
  go_wp2_with fail
  refine (far_any g o 1 c _ w3 HP3.out rfl (by omega)).mono ?_
  rintro e w4 ⟨rfl, hk4⟩
  have HH4 := hid_of (HH3.out.same hk4)
  have HO4 := hid_of (HO3.out.trans hk4)
  have HX4 := hid_of (box_kept hk4 HX.out (fun f => f))
  clear hk4 HH3 HP3 HX
  go_wp2_with fail
  refine (label_none _ w4).mono ?_
  rintro e w5 ⟨rfl, hw⟩
  have hw := hw.symm
  subst hw
  obtain ⟨b0, b1, _⟩ := look2 HX4.out
  go_wp2_with fail
  refine (add_ins r ln 18 0 a b d w0 w4 HH4.out).mono ?_
  rintro e w5 ⟨⟨v, rfl⟩, cv, h5, h5o, h5t⟩
  have H5 := hid_of h5
  have H5O := hid_of h5o
  have H5T := hid_of (HO4.out.oth.trans h5t)
  clear h5 h5o h5t b0 b1 HX4 HH4
  go_wp2
  go_ret
  exact ⟨rfl, _, H5.out, H5O.out, H5T.out⟩
/-- A line is cut into these pieces. -/
def CutR (s : ByteArray) (qs : List Pc) : Prop := ∀ w, Gl w → Calls Tryz.prog 31 #[.string s] w fun e w' => ∃ g c, e = .returned (.tuple #[.slice (some ⟨g, 0, none⟩) qs.length c, .bool true]) ∧ w'.ownsRow w.heap.size 82 4 (.slice (some ⟨g, 0, none⟩) qs.length c) qs.length (pcells qs) ∧ Kept (fun _ => False) w w'
theorem row_cap {w : World} {B e s g n c : Nat} {xs : List Value} {m : Nat} (h : w.ownsRow B e s (.slice (some ⟨g, 0, none⟩) n c) m xs) : n ≤ c := by
  rcases h.2 with ⟨h1, _⟩ | ⟨g', cap, cur, h1, _, _, hnc, _⟩
  · cases h1
  · cases h1; exact hnc
abbrev funcB : ByteArray := ⟨#[102, 117, 110, 99]⟩
abbrev mainB : ByteArray := ⟨#[109, 97, 105, 110]⟩
set_option maxHeartbeats 8000000 in
theorem line_func (r gm : Nat) (ln n0 n1 a b d : Int) (s mB t1 t2 t3 : ByteArray) (hcut : CutR s [⟨0, funcB, n0⟩, ⟨0, mB, n1⟩, ⟨1, t1, a⟩, ⟨1, t2, b⟩, ⟨1, t3, d⟩]) (w0 w : World) (hR : RdA w r gm) (hk0 : Kept (fun _ => False) w0 w) (hr : w0.heap.size ≤ r) (hm : w0.heap.size ≤ gm) (hG : Gl w) :
    Calls Tryz.prog 23 #[.pointer (some ⟨r, 0, none⟩), .int .i64 ln, .string s] w fun e w' => e = .returned (.int .i64 0) ∧ RdB w0 w' r a b d (.slice none 0 0) ∧ Oth w w' := by
  have HC := hid_of (hcut w hG)
  have HR := hid_of hR
  have HK := hid_of hk0
  have HLO : Hid (w0.heap.size ≤ r ∧ w0.heap.size ≤ gm) := ⟨hr, hm⟩
  have HRL : Hid (r < w.heap.size ∧ gm < w.heap.size) := by
    obtain ⟨clk, h1⟩ := hR.mp
    exact ⟨(Array.getElem?_eq_some_iff.1 hR.box).1, (Array.getElem?_eq_some_iff.1 h1).1⟩
  clear hcut hR hk0 hr hm hG
  go_enter Tryz.func23, Tryz.ntmps23
  go_wp2_with fail
  refine HC.out.mono ?_
  rintro e w2 ⟨g, c, rfl, ho, hk2⟩
  have HP2 := hid_of (psAt_own ho)
  have HCC := hid_of (row_cap ho)
  have HGG := hid_of (ho.lt g rfl).1
  have HR2 := hid_of (HR.out.kept hk2 (fun f => f) (fun f => f))
  have HK2 := hid_of (HK.out.trans hk2)
  have HO2 := hid_of hk2
  clear ho hk2 HC HR HK
  have hl5 : ([⟨0, funcB, n0⟩, ⟨0, mB, n1⟩, ⟨1, t1, a⟩, ⟨1, t2, b⟩, ⟨1, t3, d⟩] : List Pc).length = 5 := rfl
  rw [hl5] at HCC ⊢
  clear hl5
  go_wp2_with fail
  refine (labelled_none g 0 5 c _ w2 HP2.out rfl (by omega) HCC.out (by show ([0, 0] : List Int) ≠ [0, 3]; decide)).mono ?_
  rintro e w3 ⟨rfl, hk3⟩
  have HP3 := hid_of (HP2.out.kept hk3 (fun f => f))
  have HR3 := hid_of (HR2.out.kept hk3 (fun f => f) (fun f => f))
  have HK3 := hid_of (HK2.out.trans hk3)
  have HO3 := hid_of (HO2.out.trans hk3)
  clear hk3 HP2 HR2 HK2
  have p0 : w3.cell? ⟨g, 0, none⟩ = some (.int .i64 0) := HP3.out 0 _ rfl 0 _ rfl
  have p1 : w3.cell? ⟨g, 1, none⟩ = some (.string funcB) := HP3.out 0 _ rfl 1 _ rfl
  have hc5 : (5 : Int) ≤ (c : Int) := by have := HCC.out; omega
  have hc1 : (1 : Int) ≤ (c : Int) := by omega
  have hP4 := HP3.out.drop 1
  have HF := hid_of (function_new r gm g (0 + 1 * 4) (c - 1) mB t1 t2 t3 n1 a b d w0 w3 HR3.out hP4 HK3.out HLO.out.1 HLO.out.2 (by have := HGG.out; have := HRL.out.1; omega) (by have := HGG.out; have := HRL.out.2; omega))
  simp only [Nat.zero_add, Nat.one_mul] at HF
  clear hP4 HP3 HR3 HK3
  go_wp2_with fail
  refine HF.out.mono ?_
  rintro e w4 ⟨rfl, h4, h4t⟩
  have H4 := hid_of h4
  have H4T := hid_of (HO3.out.oth.trans h4t)
  clear h4 h4t HF p0 p1
  go_wp2
  go_ret
  exact ⟨rfl, H4.out, H4T.out⟩
theorem retB_is : retB = ⟨#[114, 101, 116]⟩ := by unfold retB; rfl
set_option maxHeartbeats 8000000 in
theorem line_ret (r : Nat) (ln n0 a b d : Int) (s : ByteArray) (hcut : CutR s [⟨0, ⟨#[114, 101, 116]⟩, n0⟩]) (w0 w : World) (h : RdB w0 w r a b d (.slice none 0 0)) (hG : Gl w) :
    Calls Tryz.prog 23 #[.pointer (some ⟨r, 0, none⟩), .int .i64 ln, .string s] w fun e w' => e = .returned (.int .i64 0) ∧ ∃ cv, RdB w0 w' r a b d cv ∧ w'.ownsRow w0.heap.size 51 2 cv 1 [.int .i64 18, .int .i64 0] ∧ Oth w w' := by
  have HC := hid_of (hcut w hG)
  have HH := hid_of h
  clear hcut h hG
  go_enter Tryz.func23, Tryz.ntmps23
  go_wp2_with fail
  refine HC.out.mono ?_
  rintro e w2 ⟨g, c, rfl, ho, hk2⟩
  have HP2 := hid_of (psAt_own ho)
  have HCC := hid_of (row_cap ho)
  have HH2 := hid_of (HH.out.same hk2)
  have HO2 := hid_of hk2
  clear ho hk2 HC HH
  have hl1 : ([⟨0, ⟨#[114, 101, 116]⟩, n0⟩] : List Pc).length = 1 := rfl
  rw [hl1] at HCC ⊢
  clear hl1
  go_wp2_with fail
  refine (labelled_none g 0 1 c _ w2 HP2.out rfl (by omega) HCC.out (by show ([0] : List Int) ≠ [0, 3]; decide)).mono ?_
  rintro e w3 ⟨rfl, hk3⟩
  have hP3 := HP2.out.kept hk3 (fun f => f)
  have HH3 := hid_of (HH2.out.same hk3)
  have p0 : w3.cell? ⟨g, 0, none⟩ = some (.int .i64 0) := hP3 0 _ rfl 0 _ rfl
  have p1 : w3.cell? ⟨g, 1, none⟩ = some (.string ⟨#[114, 101, 116]⟩) := hP3 0 _ rfl 1 _ rfl
  rw [← retB_is] at hP3
  have HO3 := hid_of (HO2.out.trans hk3)
  have HF := hid_of (code_ret r g 0 c ln n0 a b d w0 w3 HH3.out hP3 HCC.out)
  clear hk3 HP2 HH2 hP3
  go_wp2_with fail
  refine HF.out.mono ?_
  rintro e w4 ⟨rfl, cv, h4, h4o, h4t⟩
  have H4 := hid_of h4
  have H4O := hid_of h4o
  have H4T := hid_of (HO3.out.oth.trans h4t)
  clear h4 h4o h4t HF p0 p1
  go_wp2
  go_ret
  exact ⟨rfl, _, H4.out, H4O.out, H4T.out⟩
set_option maxHeartbeats 4000000 in
theorem settle_none (r : Nat) (a0 a1 a2 a3 a4 a5 : Value) (w : World) (hb : w.heap[r]? = some (.cells #[a0, a1, a2, a3, a4, a5, .slice none 0 0] 61 (0, 0))) :
    Calls Tryz.prog 24 #[.pointer (some ⟨r, 0, none⟩)] w fun e w' => e = .returned (.tuple #[.int .i64 0, .int .i64 0]) ∧ w' = w := by
  have c6 := cell_block _ _ 6 _ _ _ hb
  clear hb
  go_enter Tryz.func24, Tryz.ntmps24
  go_wp2_with fail
  go_loopw [13] (fun iv wr => iv = .int .i64 0 ∧ wr = w) (fun _ _ => 0)
  case atStart => exact ⟨rfl, rfl⟩
  case round =>
    obtain ⟨rfl, hw⟩ := hrel
    have hw := hw.symm
    subst hw
    go_wp2
    refine bodyPost_ret (results_tmp2 rfl _ _ _) rfl ?_
    exact ⟨rfl, rfl⟩
end Go.Proofs.YtkilngknklpadaaGreatDoor

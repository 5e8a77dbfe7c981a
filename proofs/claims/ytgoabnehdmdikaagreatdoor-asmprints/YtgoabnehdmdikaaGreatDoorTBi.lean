/-
  TBi: Bi.
-/
import Derived.Test.YtgoabnehdmdikaaGreatDoorTBg
import Derived.Test.YtgoabnehdmdikaaGreatDoorTAt
import Derived.Test.YtgoabnehdmdikaaGreatDoorTRa
namespace Go.Proofs.YtgoabnehdmdikaaGreatDoor
open Go.RowKit
set_option linter.unusedVariables false
set_option linter.unusedSimpArgs false
set_option maxRecDepth 100000

def decS (i : Int) : ByteArray := ⟨(Lib.itoa i).toArray⟩
def opT (s : Sh) (a pl fs : Int) : ByteArray := if s.o = 3 ∧ a ≤ pl then ⟨#[76]⟩ ++ decS a else if s.o = 4 ∧ a < fs then ⟨#[102]⟩ ++ decS a else if s.o = 5 then (rowS sysL a).nm else decS a
def opS (s : Sh) (a pl fs : Int) : ByteArray := if s.o = 0 then ⟨#[]⟩ else ⟨#[32]⟩ ++ opT s a pl fs
theorem cells_app (a b : ByteArray) : Lib.strCells (a ++ b) = Lib.strCells a ++ Lib.strCells b := by
  simp [Lib.strCells, ByteArray.data_append]
theorem cells_dec (i : Int) : Lib.strCells (decS i) = Lib.byteCells (Lib.itoa i) := rfl
theorem cells_inj {a b : ByteArray} (h : Lib.strCells a = Lib.strCells b) : a = b := by
  have h2 : a.data.toList.map (fun x : UInt8 => Value.int .u8 x.toNat) = b.data.toList.map (fun x : UInt8 => Value.int .u8 x.toNat) := h
  have h3 : a.data.toList = b.data.toList := by
    have hinj : ∀ l m : List UInt8, l.map (fun x : UInt8 => Value.int .u8 (x.toNat : Int)) = m.map (fun x : UInt8 => Value.int .u8 (x.toNat : Int)) → l = m := by
      intro l
      induction l with
      | nil => intro m hm; cases m with
        | nil => rfl
        | cons y m => simp at hm
      | cons x l ih => intro m hm; cases m with
        | nil => simp at hm
        | cons y m =>
          simp only [List.map_cons, List.cons.injEq, Value.int.injEq, true_and] at hm
          have h1 : x.toNat = y.toNat := by have := hm.1; omega
          rw [UInt8.toNat_inj.1 h1, ih m hm.2]
    exact hinj _ _ h2
  cases a; cases b
  simp only at h3
  congr 1
  exact Array.toList_inj.1 h3
theorem opS_cells (s : Sh) (a pl fs : Int) : Lib.strCells (opS s a pl fs) = opdD s a pl fs := by
  unfold opS opdD
  split
  · rfl
  · rw [cells_app]
    unfold opT
    split
    · rw [cells_app, cells_dec]; rfl
    · split
      · rw [cells_app, cells_dec]; rfl
      · split
        · rfl
        · rw [cells_dec]; rfl
theorem decS_size (i : Int) (h0 : -9223372036854775808 ≤ i) (h1 : i < 9223372036854775808) : (decS i).size ≤ 21 := itoa_size i h0 (by omega)
theorem kind_o : ∀ i : Nat, i < 46 → ((kix i : Nat) : Int) = (insL.getD i Sh.none).o := by decide
theorem opt_none (s : Sh) (a pl fs : Int) (h : s.o = 0) : opS s a pl fs = ⟨#[]⟩ := if_pos h
theorem opt_some (s : Sh) (a pl fs : Int) (h : s.o ≠ 0) : opS s a pl fs = ⟨#[32]⟩ ++ opT s a pl fs := if_neg h
theorem cat_size (c : UInt8) (s : ByteArray) : ((⟨#[c]⟩ : ByteArray) ++ s).size = 1 + s.size := by simp [ByteArray.size_append]; rfl
set_option maxHeartbeats 8000000 in
theorem opR_any (mem a l r op x : Int) (dv : Value) (fa ca : Option Addr) (nf fc pl cc : Nat) (hop : 0 ≤ op ∧ op < 46) (h0 : -9223372036854775808 ≤ x) (h1 : x < 9223372036854775808) (w : World) :
    Calls Tryz.prog 34 #[.agg #[.int .i64 mem, dv, .slice fa nf fc], .agg #[.int .i64 a, .int .i64 l, .int .i64 r, .slice ca pl cc], .agg #[.int .i64 op, .int .i64 x]] w fun e w' => e = .returned (.string (opS (rowS insL op) x (pl : Int) (nf : Int))) ∧ Kept (fun _ => False) w w' := by
  obtain ⟨k, rfl⟩ := Int.eq_ofNat_of_zero_le hop.1
  have hk : k < 46 := by omega
  have hka : Kept (fun _ => False) w (((w.alloc (.cells #[.int .i64 mem, dv, .slice fa nf fc] 26)).alloc (.cells #[.int .i64 a, .int .i64 l, .int .i64 r, .slice ca pl cc] 78)).alloc (.cells #[.int .i64 (k : Int), .int .i64 x] 75)) := (((Kept.refl _ _).alloc _).alloc _).alloc _
  have hW : ∀ W1 W2 : World, W1.heap.size = W2.heap.size → True := fun _ _ _ => trivial
  have HX := hid_of (show (((w.alloc (.cells #[.int .i64 mem, dv, .slice fa nf fc] 26)).alloc (.cells #[.int .i64 a, .int .i64 l, .int .i64 r, .slice ca pl cc] 78)).alloc (.cells #[.int .i64 (k : Int), .int .i64 x] 75)).heap[w.heap.size]? = some (.cells #[.int .i64 mem, dv, .slice fa nf fc] 26 (0, 0)) by
    rw [heap_alloc_old _ _ (by simp; omega), heap_alloc_old _ _ (by simp)]
    exact heap_alloc_new w _)
  have HF := hid_of (show (((w.alloc (.cells #[.int .i64 mem, dv, .slice fa nf fc] 26)).alloc (.cells #[.int .i64 a, .int .i64 l, .int .i64 r, .slice ca pl cc] 78)).alloc (.cells #[.int .i64 (k : Int), .int .i64 x] 75)).heap[w.heap.size + 1]? = some (.cells #[.int .i64 a, .int .i64 l, .int .i64 r, .slice ca pl cc] 78 (0, 0)) by
    rw [heap_alloc_old _ _ (by simp)]
    have := heap_alloc_new (w.alloc (.cells #[.int .i64 mem, dv, .slice fa nf fc] 26)) (.cells #[.int .i64 a, .int .i64 l, .int .i64 r, .slice ca pl cc] 78)
    rwa [show (w.alloc (.cells #[.int .i64 mem, dv, .slice fa nf fc] 26)).heap.size = w.heap.size + 1 by simp] at this)
  have HY := hid_of (show (((w.alloc (.cells #[.int .i64 mem, dv, .slice fa nf fc] 26)).alloc (.cells #[.int .i64 a, .int .i64 l, .int .i64 r, .slice ca pl cc] 78)).alloc (.cells #[.int .i64 (k : Int), .int .i64 x] 75)).heap[w.heap.size + 2]? = some (.cells #[.int .i64 (k : Int), .int .i64 x] 75 (0, 0)) by
    have := heap_alloc_new ((w.alloc (.cells #[.int .i64 mem, dv, .slice fa nf fc] 26)).alloc (.cells #[.int .i64 a, .int .i64 l, .int .i64 r, .slice ca pl cc] 78)) (.cells #[.int .i64 (k : Int), .int .i64 x] 75)
    rwa [show ((w.alloc (.cells #[.int .i64 mem, dv, .slice fa nf fc] 26)).alloc (.cells #[.int .i64 a, .int .i64 l, .int .i64 r, .slice ca pl cc] 78)).heap.size = w.heap.size + 2 by simp] at this)
  have HK := hid_of hka
  have HDS := hid_of (decS_size x h0 h1)
  have HSZ := hid_of (sys_small x)
  have HA0 := hid_of h0
  have HA1 := hid_of h1
  have HDC := fun W => decimal_any x h0 (by omega) W
  have HOR := fun W => operand_ref W k hk
  have hrow : rowS insL (k : Int) = insL.getD k Sh.none := (row_at (L := insL) hk).1
  have hki := kind_o k hk
  rw [hrow]
  clear hka hop hk h0 h1 hrow hW
  generalize insL.getD k Sh.none = sh at *
  generalize (kix k : Nat) = kk at *
  have HT : Hid (opT sh x (pl : Int) (nf : Int) = if sh.o = 3 ∧ x ≤ (pl : Int) then ⟨#[76]⟩ ++ decS x else if sh.o = 4 ∧ x < (nf : Int) then ⟨#[102]⟩ ++ decS x else if sh.o = 5 then (rowS sysL x).nm else decS x) := rfl
  have HO := fun h => hid_of (opt_some sh x (pl : Int) (nf : Int) h)
  have HO0 := fun h => hid_of (opt_none sh x (pl : Int) (nf : Int) h)
  generalize opT sh x (pl : Int) (nf : Int) = ot at *
  generalize opS sh x (pl : Int) (nf : Int) = os at *
  have HKO : Hid (sh.o = (kk : Int)) := hki.symm
  clear hki
  obtain ⟨nm, o, tt, gg⟩ := sh
  simp only at HKO HT HO HO0
  go_enter Tryz.func34, Tryz.ntmps34
  go_upto_region 1 with fail
  generalize (((w.alloc (.cells #[.int .i64 mem, dv, .slice fa nf fc] 26)).alloc (.cells #[.int .i64 a, .int .i64 l, .int .i64 r, .slice ca pl cc] 78)).alloc (.cells #[.int .i64 (k : Int), .int .i64 x] 75)) = wa at *
  generalize w.heap.size = gx at *
  obtain ⟨y0, y1, _⟩ := look2 HY.out
  go_wp2_with fail
  refine (HDC wa).mono ?_
  rintro e w2 ⟨rfl, hk2⟩
  obtain ⟨y0, y1, _⟩ := look2 (box_kept hk2 HY.out (fun f => f))
  obtain ⟨x0, x1, x2, _⟩ := look3 (box_kept hk2 HX.out (fun f => f))
  obtain ⟨f0, f1, f2, f3, _⟩ := look4 (box_kept hk2 HF.out (fun f => f))
  have HK2 := hid_of (HK.out.trans hk2)
  have HOR2 := hid_of (HOR w2)
  clear hk2 HDC HOR HX HY HF HK
  rw [show (⟨(Lib.itoa x).toArray⟩ : ByteArray) = decS x from rfl]
  generalize decS x = ds at *
  go_wp2_with fail
  refine HOR2.out.mono ?_
  rintro e w3 ⟨rfl, hw⟩
  have hw := hw.symm
  subst hw
  clear HOR2
  have hz1 : ¬ ((9223372036854775807 : Nat) < 1 + ds.size) := by have := HDS.out; omega
  have hz2 : ¬ ((9223372036854775807 : Nat) < 1 + (1 + ds.size)) := by have := HDS.out; omega
  have hc1 := cat_size 76 ds
  have hc2 := cat_size 102 ds
  by_cases h0 : kk = 0
  · subst h0
    have HE := HO0 (by have := HKO.out; simpa using this)
    clear HO HO0 HT
    go_wp2
    go_ret
    exact ⟨by rw [HE.out]; rfl, HK2.out⟩
  have HE := HO (by have := HKO.out; omega)
  have q0 : ((kk : Int) == 0) = false := by simp [h0]
  clear HO HO0
  by_cases h3 : kk = 3
  · subst h3
    by_cases hp : x ≤ (pl : Int)
    · have HTT : Hid (ot = ⟨#[76]⟩ ++ ds) := by show ot = _; rw [HT.out, if_pos ⟨HKO.out, hp⟩]
      clear HT
      go_wp2
      go_ret
      exact ⟨by rw [HE.out, HTT.out]; rfl, HK2.out⟩
    · have HTT : Hid (ot = ds) := by show ot = _; rw [HT.out, if_neg (fun hh => hp hh.2), if_neg (fun hh => by have := HKO.out; omega), if_neg (by have := HKO.out; omega)]
      have hpd : decide (x ≤ (pl : Int)) = false := decide_eq_false hp
      clear HT
      go_wp2
      go_ret
      exact ⟨by rw [HE.out, HTT.out]; rfl, HK2.out⟩
  have q3 : ((kk : Int) == 3) = false := by simp; omega
  by_cases h4 : kk = 4
  · subst h4
    by_cases hp : x < (nf : Int)
    · have HTT : Hid (ot = ⟨#[102]⟩ ++ ds) := by show ot = _; rw [HT.out, if_neg (fun hh => by have := HKO.out; omega), if_pos ⟨HKO.out, hp⟩]
      clear HT
      go_wp2
      go_ret
      exact ⟨by rw [HE.out, HTT.out]; rfl, HK2.out⟩
    · have HTT : Hid (ot = ds) := by show ot = _; rw [HT.out, if_neg (fun hh => by have := HKO.out; omega), if_neg (fun hh => hp hh.2), if_neg (by have := HKO.out; omega)]
      have hpd : decide (x < (nf : Int)) = false := decide_eq_false hp
      clear HT
      go_wp2
      go_ret
      exact ⟨by rw [HE.out, HTT.out]; rfl, HK2.out⟩
  have q4 : ((kk : Int) == 4) = false := by simp; omega
  by_cases h5 : kk = 5
  · subst h5
    have HTT : Hid (ot = (rowS sysL x).nm) := by show ot = _; rw [HT.out, if_neg (fun hh => by have := HKO.out; omega), if_neg (fun hh => by have := HKO.out; omega), if_pos (by have := HKO.out; omega)]
    have HSY1 := hid_of (sysof_ref x w2 HA0.out HA1.out)
    clear HT h0 h3 h4 q0 q3 q4
    generalize isRow sysL x = iq2 at *
    generalize rowS sysL x = sy at *
    obtain ⟨nm2, o2, t2, g2⟩ := sy
    have HSY : Hid (Calls Tryz.prog 50 #[.int .i64 x] w2 fun e w' => e = .returned (.tuple #[.agg #[.string nm2, .int .i64 o2, .int .i64 t2, .int .i64 g2], .bool iq2]) ∧ Kept (fun _ => False) w2 w') := HSY1.out
    have HT2 : Hid (ot = nm2) := HTT.out
    have hs2 : nm2.size ≤ 100 := HSZ.out
    have hz3 : ¬ ((9223372036854775807 : Nat) < 1 + nm2.size) := by omega
    clear HSY1 HTT HSZ
    go_wp2_with fail
    refine HSY.out.mono ?_
    rintro e w6 ⟨rfl, hk6⟩
    have hka : Kept (fun _ => False) w6 (w6.alloc (.cells #[.string nm2, .int .i64 o2, .int .i64 t2, .int .i64 g2] 89)) := (Kept.refl _ _).alloc _
    have c0 := cell_block _ _ 0 _ _ _ (heap_alloc_new w6 (.cells #[.string nm2, .int .i64 o2, .int .i64 t2, .int .i64 g2] 89))
    have HK6 := hid_of (HK2.out.trans (hk6.trans hka))
    clear hk6 hka HSY
    go_wp2
    go_ret
    exact ⟨by rw [HE.out, HT2.out]; rfl, HK6.out⟩
  have q5 : ((kk : Int) == 5) = false := by simp; omega
  have HTT : Hid (ot = ds) := by show ot = _; rw [HT.out, if_neg (fun hh => by have := HKO.out; omega), if_neg (fun hh => by have := HKO.out; omega), if_neg (by have := HKO.out; omega)]
  clear HT
  go_wp2
  go_ret
  exact ⟨by rw [HE.out, HTT.out]; rfl, HK2.out⟩
end Go.Proofs.YtgoabnehdmdikaaGreatDoor

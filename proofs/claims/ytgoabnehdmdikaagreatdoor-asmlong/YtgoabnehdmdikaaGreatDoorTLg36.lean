import Derived.Test.YtgoabnehdmdikaaGreatDoorTLg6
import Derived.Lib.ItoaLen
import Derived.Test.YtgoabnehdmdikaaGreatDoorTLg35
import Derived.Test.YtgoabnehdmdikaaGreatDoorTLg11
import Derived.Test.YtgoabnehdmdikaaGreatDoorTLg8
import Derived.Laws.BytesString
import Derived.Laws.IdiomCopy
import Derived.Lib.ConvBytes
import Derived.Test.YtgoabnehdmdikaaGreatDoorTLg31
import Derived.Deep.QuietTactic
import Derived.BigQuiet
set_option linter.unusedVariables false
set_option linter.unusedSimpArgs false
set_option maxRecDepth 100000
set_option maxHeartbeats 64000000
namespace Go.Proofs.YtgoabnehdmdikaaGreatDoor
open Go.RowKit
theorem Zga (W : World) (x : Int) : (convert 23 9 (.slice (some ⟨W.heap.size, 0, none⟩) 1 1)).run Tryz.prog (W.alloc (.cells #[.int .u8 x] 5)) = .ok (.string (str [x])) (W.alloc (.cells #[.int .u8 x] 5)) :=
 Zaf _ _ [x] (Zbc (Zhs W (.int .u8 x) 0 (Nat.zero_le _)))
theorem Zr8 (u : Nat) (h : 9 < u) : Lib.decDigits u = Lib.decDigits (u / 10) ++ [UInt8.ofNat (48 + u % 10)] := by
 rw [Lib.decDigits, dif_neg (by omega)]
theorem Zmj (x : Nat) : str [((x : Nat) : Int)] = ⟨#[UInt8.ofNat x]⟩ := rfl
theorem Zkv (a b : List UInt8) : (⟨a.toArray⟩ : ByteArray) ++ ⟨b.toArray⟩ = ⟨(a ++ b).toArray⟩ := by
 apply ByteArray.ext; simp
theorem Zhy (U : Nat) (h : U ≤ 9223372036854775808) : (Lib.decDigits U).length ≤ 20 := by
 rw [Lib.decDigits_length]; exact Lib.nDigits_le20 U (by omega)
def DcL (U u : Nat) (s : ByteArray) : Prop := ∃ l : List UInt8, s = ⟨l.toArray⟩ ∧ Lib.decDigits U = Lib.decDigits u ++ l
theorem DcL.more {U u : Nat} {s : ByteArray} (h : DcL U u s) (hu : 9 < u) : DcL U (u / 10) (str [48 + (u : Int) % 10] ++ s) := by
 obtain ⟨l, rfl, hl⟩ := h
 refine ⟨UInt8.ofNat (48 + u % 10) :: l, ?_, ?_⟩
 ·have e : (48 + (u : Int) % 10) = ((48 + u % 10 : Nat) : Int) := by omega
  rw [e, Zmj]; exact Zkv [UInt8.ofNat (48 + u % 10)] l
 ·rw [hl, Zr8 u hu]; simp
theorem DcL.last {U u : Nat} {s : ByteArray} (h : DcL U u s) (hu : ¬ 9 < u) : str [48 + (u : Int)] ++ s = ⟨(Lib.decDigits U).toArray⟩ := by
 obtain ⟨l, rfl, hl⟩ := h
 have e : (48 + (u : Int)) = ((48 + u : Nat) : Int) := by omega
 rw [hl, e, Zmj, Lib.decDigits_one (by omega)]; exact Zkv [UInt8.ofNat (48 + u)] l
theorem DcL.size {U u : Nat} {s : ByteArray} (h : DcL U u s) (hU : U ≤ 9223372036854775808) : s.size ≤ 20 := by
 obtain ⟨l, rfl, hl⟩ := h
 have := Zhy U hU
 rw [hl, List.length_append] at this
 have hs : (⟨l.toArray⟩ : ByteArray).size = l.length := by simp [ByteArray.size]
 omega
theorem Zln (U : Nat) (hU : U ≤ 9223372036854775807) (w : World) :
  Calls Tryz.prog 30 #[.int .i64 (U : Int)] w fun e w' => e = .returned (.string ⟨(Lib.decDigits U).toArray⟩) ∧ Kept nF w w' := by
 go_enter Tryz.func30, Tryz.ntmps30
 go_wp2
 go_loopw [3, 4] (fun uv sv wr => ∃ (u : Nat) (s : ByteArray), uv = .int .u64 (u : Int) ∧ sv = .string s ∧ u ≤ 9223372036854775808 ∧ s.size ≤ 20 ∧ Hid (DcL U u s) ∧ Hid (Kept nF w wr)) (fun uv _ _ => (intOf uv).toNat)
 case atStart => exact ⟨U, _, rfl, rfl, by omega, by decide, ⟨[], rfl, by simp⟩, Kept.refl _ _⟩
 case round =>
  obtain ⟨u, s, rfl, rfl, hu, hs, HL, HK⟩ := hrel
  by_cases hlt : 9 < u
  ·have hltI : (9 : Int) < (u : Int) := by omega
   have hd := Zga wr
   have hz : (str [48 + (u : Int) % 10]).size = 1 := Zbj _
   have HM := Za (HL.out.more hlt)
   have hs2 := HM.out.size (by omega)
   go_wp2
   go_roundw
   case rel => exact ⟨u / 10, _, by go_num, rfl, by omega, hs2, HM, HK.out.alloc _⟩
   case measure => simp [intOf]; omega
  ·have hltI : ¬ (9 : Int) < (u : Int) := by omega
   have hd := Zga wr
   have hz : (str [48 + (u : Int)]).size = 1 := Zbj _
   have hE := HL.out.last hlt
   have hsz := Zhy U (by omega)
   have hsz2 : (⟨(Lib.decDigits U).toArray⟩ : ByteArray).size ≤ 20 := by simpa [ByteArray.size] using hsz
   go_wp2
   go_ret
   exact ⟨rfl, HK.out.alloc _⟩
theorem Zlo (U : Nat) (hU : U ≤ 9223372036854775808) (h1 : 1 ≤ U) (w : World) :
  Calls Tryz.prog 30 #[.int .i64 (-(U : Int))] w fun e w' => e = .returned (.string ⟨(45 :: Lib.decDigits U).toArray⟩) ∧ Kept nF w w' := by
 have hn : -(U : Int) < 0 := by omega
 have hwr : IntKind.u64.wrap (-IntKind.u64.wrap (-(U : Int))) = (U : Int) := by
  have e : ∀ x : Int, IntKind.u64.wrap x = x % 18446744073709551616 := fun x => rfl
  rw [e, e]; omega
 go_enter Tryz.func30, Tryz.ntmps30
 go_wp2
 try simp only [hwr]
 go_loopw [3, 4] (fun uv sv wr => ∃ (u : Nat) (s : ByteArray), uv = .int .u64 (u : Int) ∧ sv = .string s ∧ u ≤ 9223372036854775808 ∧ s.size ≤ 20 ∧ Hid (DcL U u s) ∧ Hid (Kept nF w wr)) (fun uv _ _ => (intOf uv).toNat)
 case atStart => exact ⟨U, _, rfl, rfl, by omega, by decide, ⟨[], rfl, by simp⟩, Kept.refl _ _⟩
 case round =>
  obtain ⟨u, s, rfl, rfl, hu, hs, HL, HK⟩ := hrel
  by_cases hlt : 9 < u
  ·have hltI : (9 : Int) < (u : Int) := by omega
   have hd := Zga wr
   have hz : (str [48 + (u : Int) % 10]).size = 1 := Zbj _
   have HM := Za (HL.out.more hlt)
   have hs2 := HM.out.size (by omega)
   go_wp2
   go_roundw
   case rel => exact ⟨u / 10, _, by go_num, rfl, by omega, hs2, HM, HK.out.alloc _⟩
   case measure => simp [intOf]; omega
  ·have hltI : ¬ (9 : Int) < (u : Int) := by omega
   have hd := Zga wr
   have hz : (str [48 + (u : Int)]).size = 1 := Zbj _
   have hE := HL.out.last hlt
   have hsz := Zhy U (by omega)
   have hsz2 : (⟨(Lib.decDigits U).toArray⟩ : ByteArray).size ≤ 20 := by simpa [ByteArray.size] using hsz
   have hE2 : (⟨#[45]⟩ : ByteArray) ++ ⟨(Lib.decDigits U).toArray⟩ = ⟨(45 :: Lib.decDigits U).toArray⟩ := Zkv [45] _
   go_wp2
   go_ret
   exact ⟨rfl, HK.out.alloc _⟩
theorem Za9 (n : Int) (h0 : -9223372036854775808 ≤ n) (h1 : n ≤ 9223372036854775807) (w : World) :
  Calls Tryz.prog 30 #[.int .i64 n] w fun e w' => e = .returned (.string ⟨(Lib.itoa n).toArray⟩) ∧ Kept nF w w' := by
 by_cases hn : n < 0
 ·obtain ⟨u, rfl⟩ : ∃ u : Nat, n = -(u : Int) := ⟨n.natAbs, by omega⟩
  rw [Lib.itoa_neg u (by omega)]
  exact Zlo u (by omega) (by omega) w
 ·obtain ⟨u, rfl⟩ : ∃ u : Nat, n = (u : Int) := ⟨n.toNat, by omega⟩
  rw [Lib.itoa_nonneg]
  exact Zln u (by omega) w
theorem Zpn (n : Int) (h0 : -9223372036854775808 ≤ n) (h1 : n ≤ 9223372036854775807) : (⟨(Lib.itoa n).toArray⟩ : ByteArray).size ≤ 21 := by
 simpa [ByteArray.size] using Lib.itoa_length_le n h0 h1
def Wb (i : Int) : ByteArray := ⟨(Lib.itoa i).toArray⟩
def opT (s : Sh) (a pl fs : Int) : ByteArray := if s.o = 3 ∧ a ≤ pl then ⟨#[76]⟩ ++ Wb a else if s.o = 4 ∧ a < fs then ⟨#[102]⟩ ++ Wb a else if s.o = 5 then (Yd Zk a).nm else Wb a
def opS (s : Sh) (a pl fs : Int) : ByteArray := if s.o = 0 then ⟨#[]⟩ else ⟨#[32]⟩ ++ opT s a pl fs
theorem Yr (a b : ByteArray) : Lib.strCells (a ++ b) = Lib.strCells a ++ Lib.strCells b := by
 simp [Lib.strCells, ByteArray.data_append]
theorem Za5 (i : Int) : Lib.strCells (Wb i) = Lib.byteCells (Lib.itoa i) := rfl
theorem Zix (s : Sh) (a pl fs : Int) : Lib.strCells (opS s a pl fs) = We s a pl fs := by
 unfold opS We
 split
 ·rfl
 ·rw [Yr]
  unfold opT
  split
  ·rw [Yr, Za5]; rfl
  ·split
   ·rw [Yr, Za5]; rfl
   ·split
    ·rfl
    ·rw [Za5]; rfl
theorem Zb0 (i : Int) (h0 : -9223372036854775808 ≤ i) (h1 : i < 9223372036854775808) : (Wb i).size ≤ 21 := Zpn i h0 (by omega)
theorem Zkw : ∀ i : Nat, i < 46 → ((kix i : Nat) : Int) = (Zj.getD i Sh.none).o := by decide
theorem Zr9 (s : Sh) (a pl fs : Int) (h : s.o = 0) : opS s a pl fs = ⟨#[]⟩ := if_pos h
theorem Zsa (s : Sh) (a pl fs : Int) (h : s.o ≠ 0) : opS s a pl fs = ⟨#[32]⟩ ++ opT s a pl fs := if_neg h
theorem Zkx (c : UInt8) (s : ByteArray) : ((⟨#[c]⟩ : ByteArray) ++ s).size = 1 + s.size := by simp [ByteArray.size_append]; rfl
theorem Zu2 (mem a l r op x : Int) (dv : Value) (fa ca : Option Addr) (nf fc pl cc : Nat) (hop : 0 ≤ op ∧ op < 46) (h0 : -9223372036854775808 ≤ x) (h1 : x < 9223372036854775808) (w : World) :
  Calls Tryz.prog 34 #[.agg #[.int .i64 mem, dv, .slice fa nf fc], .agg #[.int .i64 a, .int .i64 l, .int .i64 r, .slice ca pl cc], .agg #[.int .i64 op, .int .i64 x]] w fun e w' => e = .returned (.string (opS (Yd Zj op) x (pl : Int) (nf : Int))) ∧ Kept nF w w' := by
 obtain ⟨k, rfl⟩ := Int.eq_ofNat_of_zero_le hop.1
 have hk : k < 46 := by omega
 have hka : Kept nF w (((w.alloc (.cells #[.int .i64 mem, dv, .slice fa nf fc] 26)).alloc (.cells #[.int .i64 a, .int .i64 l, .int .i64 r, .slice ca pl cc] 78)).alloc (.cells #[.int .i64 (k : Int), .int .i64 x] 75)) := (((Kept.refl _ _).alloc _).alloc _).alloc _
 have hW : ∀ W1 W2 : World, W1.heap.size = W2.heap.size → True := fun _ _ _ => trivial
 have HX := Za (show (((w.alloc (.cells #[.int .i64 mem, dv, .slice fa nf fc] 26)).alloc (.cells #[.int .i64 a, .int .i64 l, .int .i64 r, .slice ca pl cc] 78)).alloc (.cells #[.int .i64 (k : Int), .int .i64 x] 75)).heap[w.heap.size]? = some (.cells #[.int .i64 mem, dv, .slice fa nf fc] 26 (0, 0)) by
  rw [heap_alloc_old _ _ (by simp; omega), heap_alloc_old _ _ (by simp)]
  exact heap_alloc_new w _)
 have HF := Za (show (((w.alloc (.cells #[.int .i64 mem, dv, .slice fa nf fc] 26)).alloc (.cells #[.int .i64 a, .int .i64 l, .int .i64 r, .slice ca pl cc] 78)).alloc (.cells #[.int .i64 (k : Int), .int .i64 x] 75)).heap[w.heap.size + 1]? = some (.cells #[.int .i64 a, .int .i64 l, .int .i64 r, .slice ca pl cc] 78 (0, 0)) by
  rw [heap_alloc_old _ _ (by simp)]
  have := heap_alloc_new (w.alloc (.cells #[.int .i64 mem, dv, .slice fa nf fc] 26)) (.cells #[.int .i64 a, .int .i64 l, .int .i64 r, .slice ca pl cc] 78)
  rwa [show (w.alloc (.cells #[.int .i64 mem, dv, .slice fa nf fc] 26)).heap.size = w.heap.size + 1 by simp] at this)
 have HY := Za (show (((w.alloc (.cells #[.int .i64 mem, dv, .slice fa nf fc] 26)).alloc (.cells #[.int .i64 a, .int .i64 l, .int .i64 r, .slice ca pl cc] 78)).alloc (.cells #[.int .i64 (k : Int), .int .i64 x] 75)).heap[w.heap.size + 2]? = some (.cells #[.int .i64 (k : Int), .int .i64 x] 75 (0, 0)) by
  have := heap_alloc_new ((w.alloc (.cells #[.int .i64 mem, dv, .slice fa nf fc] 26)).alloc (.cells #[.int .i64 a, .int .i64 l, .int .i64 r, .slice ca pl cc] 78)) (.cells #[.int .i64 (k : Int), .int .i64 x] 75)
  rwa [show ((w.alloc (.cells #[.int .i64 mem, dv, .slice fa nf fc] 26)).alloc (.cells #[.int .i64 a, .int .i64 l, .int .i64 r, .slice ca pl cc] 78)).heap.size = w.heap.size + 2 by simp] at this)
 have HK := Za hka
 have HDS := Za (Zb0 x h0 h1)
 have HSZ := Za (Zd3 x)
 have HA0 := Za h0
 have HA1 := Za h1
 have HDC := fun W => Za9 x h0 (by omega) W
 have HOR := fun W => Zcb W k hk
 have hrow : Yd Zj (k : Int) = Zj.getD k Sh.none := (Zcd (L := Zj) hk).1
 have hki := Zkw k hk
 rw [hrow]
 clear hka hop hk h0 h1 hrow hW
 generalize Zj.getD k Sh.none = sh at *
 generalize (kix k : Nat) = kk at *
 have HT : Hid (opT sh x (pl : Int) (nf : Int) = if sh.o = 3 ∧ x ≤ (pl : Int) then ⟨#[76]⟩ ++ Wb x else if sh.o = 4 ∧ x < (nf : Int) then ⟨#[102]⟩ ++ Wb x else if sh.o = 5 then (Yd Zk x).nm else Wb x) := rfl
 have HO := fun h => Za (Zsa sh x (pl : Int) (nf : Int) h)
 have HO0 := fun h => Za (Zr9 sh x (pl : Int) (nf : Int) h)
 generalize opT sh x (pl : Int) (nf : Int) = ot at *
 generalize opS sh x (pl : Int) (nf : Int) = os at *
 have HKO : Hid (sh.o = (kk : Int)) := hki.symm
 clear hki
 obtain ⟨nm, o, tt, gg⟩ := sh
 simp only at HKO HT HO HO0
 go_enter Tryz.func34, Tryz.ntmps34
 go_upto_region 1 with fail
 generalize (((w.alloc (.cells #[.int .i64 mem, dv, .slice fa nf fc] 26)).alloc (.cells #[.int .i64 a, .int .i64 l, .int .i64 r, .slice ca pl cc] 78)).alloc (.cells #[.int .i64 (k : Int), .int .i64 x] 75)) = wa at *
 generalize w.heap.size = gx at *
 obtain ⟨y0, y1, _⟩ := Ym HY.out
 go_wp2_with fail
 refine (HDC wa).mono ?_
 rintro e w2 ⟨rfl, hk2⟩
 obtain ⟨y0, y1, _⟩ := Ym (Zc hk2 HY.out id)
 obtain ⟨x0, x1, x2, _⟩ := Zx (Zc hk2 HX.out id)
 obtain ⟨f0, f1, f2, f3, _⟩ := Yk (Zc hk2 HF.out id)
 have HK2 := Za (HK.out.trans hk2)
 have HOR2 := Za (HOR w2)
 clear hk2 HDC HOR HX HY HF HK
 rw [show (⟨(Lib.itoa x).toArray⟩ : ByteArray) = Wb x from rfl]
 generalize Wb x = ds at *
 go_wp2_with fail
 refine HOR2.out.mono ?_
 rintro e w3 ⟨rfl, hw⟩
 have hw := hw.symm
 subst hw
 clear HOR2
 have hz1 : ¬ ((9223372036854775807 : Nat) < 1 + ds.size) := by have := HDS.out; omega
 have hz2 : ¬ ((9223372036854775807 : Nat) < 1 + (1 + ds.size)) := by have := HDS.out; omega
 have hc1 := Zkx 76 ds
 have hc2 := Zkx 102 ds
 by_cases h0 : kk = 0
 ·subst h0
  have HE := HO0 (by have := HKO.out; simpa using this)
  clear HO HO0 HT
  go_wp2
  go_ret
  exact ⟨by rw [HE.out]; rfl, HK2.out⟩
 have HE := HO (by have := HKO.out; omega)
 have q0 : ((kk : Int) == 0) = false := by simp [h0]
 clear HO HO0
 by_cases h3 : kk = 3
 ·subst h3
  by_cases hp : x ≤ (pl : Int)
  ·have HTT : Hid (ot = ⟨#[76]⟩ ++ ds) := by show ot = _; rw [HT.out, if_pos ⟨HKO.out, hp⟩]
   clear HT
   go_wp2
   go_ret
   exact ⟨by rw [HE.out, HTT.out]; rfl, HK2.out⟩
  ·have HTT : Hid (ot = ds) := by show ot = _; rw [HT.out, if_neg (fun hh => hp hh.2), if_neg (fun hh => by have := HKO.out; omega), if_neg (by have := HKO.out; omega)]
   have hpd : decide (x ≤ (pl : Int)) = false := decide_eq_false hp
   clear HT
   go_wp2
   go_ret
   exact ⟨by rw [HE.out, HTT.out]; rfl, HK2.out⟩
 have q3 : ((kk : Int) == 3) = false := by simp; omega
 by_cases h4 : kk = 4
 ·subst h4
  by_cases hp : x < (nf : Int)
  ·have HTT : Hid (ot = ⟨#[102]⟩ ++ ds) := by show ot = _; rw [HT.out, if_neg (fun hh => by have := HKO.out; omega), if_pos ⟨HKO.out, hp⟩]
   clear HT
   go_wp2
   go_ret
   exact ⟨by rw [HE.out, HTT.out]; rfl, HK2.out⟩
  ·have HTT : Hid (ot = ds) := by show ot = _; rw [HT.out, if_neg (fun hh => by have := HKO.out; omega), if_neg (fun hh => hp hh.2), if_neg (by have := HKO.out; omega)]
   have hpd : decide (x < (nf : Int)) = false := decide_eq_false hp
   clear HT
   go_wp2
   go_ret
   exact ⟨by rw [HE.out, HTT.out]; rfl, HK2.out⟩
 have q4 : ((kk : Int) == 4) = false := by simp; omega
 by_cases h5 : kk = 5
 ·subst h5
  have HTT : Hid (ot = (Yd Zk x).nm) := by show ot = _; rw [HT.out, if_neg (fun hh => by have := HKO.out; omega), if_neg (fun hh => by have := HKO.out; omega), if_pos (by have := HKO.out; omega)]
  have HSY1 := Za (Zn9 x w2 HA0.out HA1.out)
  clear HT h0 h3 h4 q0 q3 q4
  generalize Xb Zk x = iq2 at *
  generalize Yd Zk x = sy at *
  obtain ⟨nm2, o2, t2, g2⟩ := sy
  have HSY : Hid (Calls Tryz.prog 50 #[.int .i64 x] w2 fun e w' => e = .returned (.tuple #[.agg #[.string nm2, .int .i64 o2, .int .i64 t2, .int .i64 g2], .bool iq2]) ∧ Kept nF w2 w') := HSY1.out
  have HT2 : Hid (ot = nm2) := HTT.out
  have hs2 : nm2.size ≤ 100 := HSZ.out
  have hz3 : ¬ ((9223372036854775807 : Nat) < 1 + nm2.size) := by omega
  clear HSY1 HTT HSZ
  go_wp2_with fail
  refine HSY.out.mono ?_
  rintro e w6 ⟨rfl, hk6⟩
  have hka : Kept nF w6 (w6.alloc (.cells #[.string nm2, .int .i64 o2, .int .i64 t2, .int .i64 g2] 89)) := (Kept.refl _ _).alloc _
  have c0 := Zb _ _ 0 _ _ _ (heap_alloc_new w6 (.cells #[.string nm2, .int .i64 o2, .int .i64 t2, .int .i64 g2] 89))
  have HK6 := Za (HK2.out.trans (hk6.trans hka))
  clear hk6 hka HSY
  go_wp2
  go_ret
  exact ⟨by rw [HE.out, HT2.out]; rfl, HK6.out⟩
 have q5 : ((kk : Int) == 5) = false := by simp; omega
 have HTT : Hid (ot = ds) := by show ot = _; rw [HT.out, if_neg (fun hh => by have := HKO.out; omega), if_neg (fun hh => by have := HKO.out; omega), if_neg (by have := HKO.out; omega)]
 clear HT
 go_wp2
 go_ret
 exact ⟨by rw [HE.out, HTT.out]; rfl, HK2.out⟩
theorem Zwd (w : World) (x : Int) : Bs w (w.alloc (.cells #[.int .u8 x] 5)) (w.alloc (.cells #[.int .u8 x] 5)) (some ⟨w.heap.size, 0, none⟩) 1 1 (Zo [x]) :=
 ⟨⟨rfl, .inr ⟨w.heap.size, 1, _, rfl, Nat.le_refl _, heap_alloc_new w _, Nat.le_refl _, by decide, rfl, rfl⟩⟩, (Kept.refl _ _).alloc _, Lib.OthersKept.refl _ _ _⟩
theorem Zs9 (x : Int) (h0 : 0 ≤ x) (h1 : x ≤ 255) : IntKind.u8.wrap (x.tdiv 16) = x / 16 := by
 have e : Int.tdiv x 16 = x / 16 := Int.tdiv_eq_ediv_of_nonneg h0
 rw [e]
 simp [IntKind.wrap, IntKind.bits, IntKind.signed]
 omega
theorem Zta (x : Int) (h0 : 0 ≤ x) : x.tmod 16 = x % 16 := Int.tmod_eq_emod_of_nonneg h0
theorem Znm (dv : Value) (xs : List Int) (w : World) (hx : IsB w dv xs) (hb : ∀ x ∈ xs, 0 ≤ x ∧ x ≤ 255) (hl : xs.length ≤ 1000000000000) :
  Calls Tryz.prog 31 #[dv] w fun e w' => e = .returned (.string (str (Xr xs))) ∧ Kept nF w w' := by
 obtain ⟨n, hn⟩ := nmd (xs.length)
 obtain ⟨va, vo, hv⟩ : ∃ (va : Option Addr) (vc : Nat), dv = .slice va n vc := by
  rcases hx with ⟨rfl, ao, c, rfl⟩ | ⟨g, o, c, rfl, _⟩
  ·exact ⟨ao, c, by rw [hn]; rfl⟩
  ·exact ⟨_, c, by rw [hn]⟩
 have HC : Hid (∀ i, i < n → ∃ g o, va = some ⟨g, o, none⟩ ∧ w.cell? ⟨g, o + i, none⟩ = some (.int .u8 (xs.getD i 0)) ∧ 0 ≤ xs.getD i 0 ∧ xs.getD i 0 ≤ 255) := fun i hi => by
  have hi' : i < xs.length := by omega
  have hm : xs.getD i 0 ∈ xs := by simp [List.getD, List.getElem?_eq_getElem hi']
  rcases hx with ⟨rfl, ao, c, rfl⟩ | ⟨g, o, c, rfl, hc⟩
  ·exact absurd hi' (by simp)
  ·cases hv
   exact ⟨g, o, rfl, hc i hi', hb _ hm⟩
 have HN := Za hn
 have HL : Hid (n ≤ 1000000000000) := by rw [hn]; exact hl
 have HQ0 : Hid (Bs w (w.alloc (.cells #[.int .u8 34] 5)) (w.alloc (.cells #[.int .u8 34] 5)) (some ⟨w.heap.size, 0, none⟩) 1 1 (Zo (34 :: (xs.take 0).flatMap qa))) := Zwd w 34
 subst hv
 clear hx hb hl hn
 go_enter Tryz.func31, Tryz.ntmps31
 go_wp2_with fail
 generalize w.alloc (.cells #[.int .u8 34] 5) = w1 at *
 generalize hgx : w.heap.size = gx at HQ0 ⊢
 clear hgx
 have HM1 : Hid (1 ≤ 4 * 0 + 1) := by show 1 ≤ 4 * 0 + 1; omega
 go_loopw [3, 4] (fun qv iv wr => ∃ (i : Nat), iv = .int .i64 (i : Int) ∧ ∃ (ao : Option Addr) (k c : Nat), qv = .slice ao k c ∧ Hid (i ≤ n) ∧ Hid (Bs w w1 wr ao k c (Zo (34 :: (xs.take i).flatMap qa))) ∧ Hid (k ≤ 4 * i + 1)) (fun _ iv _ => n - (intOf iv).toNat)
 case atStart => exact ⟨0, rfl, _, _, _, rfl, Nat.zero_le _, HQ0.out, HM1.out⟩
 case round =>
  obtain ⟨i, rfl, ao, k, c, rfl, HI, HQ, HK⟩ := hrel
  clear HQ0 HM1
  by_cases hlt : i < n
  ·obtain ⟨g, o, rfl, hc, hc0, hc1⟩ := HC.out i hlt
   have hcell := HQ.out.kept.cell hc id
   have hltI : (i : Int) < (n : Int) := by omega
   have hiB : (i : Int) < 1000000000000 := by have := HL.out; omega
   have HT := Za (Zmt xs i (by have := HN.out; omega))
   generalize xs.getD i 0 = x at *
   clear hc
   by_cases h1 : x = 34 ∨ x = 92
   ·rcases h1 with rfl | rfl
    ·obtain ⟨a', k', c', w', hr, hq⟩ := HQ.out.pushB [92, 34] (by have := HK.out; have := HL.out; have := HI.out; simp; omega)
     have hqb : qa 34 = [92, 34] := rfl
     have HR := Za hr
     rw [hqb] at HT
     have HQ2 : Hid (Bs w w1 w' a' k' c' (Zo (34 :: (xs.take (i + 1)).flatMap qa))) := by rw [HT.out]; have := Zav [] ((xs.take i).flatMap qa) [92, 34]; simp only [List.nil_append] at this; rw [← this]; exact hq
     have HK2 : Hid (k' ≤ 4 * (i + 1) + 1) := by show k' ≤ 4 * (i + 1) + 1; have h := HQ.out.step hq; have := HK.out; simp [Zo] at h; omega
     clear hr hq hqb HT HQ HK HI
     go_wp2_with (at_builtin; refine Zr rfl (.tmp 33) (.tmp 35) 23 23 rfl _ _ rfl rfl _ w' HR.out ?_)
     go_roundw
     case rel => exact ⟨i + 1, by go_num, _, _, _, rfl, hlt, HQ2, HK2⟩
     case measure => simp [intOf]; omega
    ·obtain ⟨a', k', c', w', hr, hq⟩ := HQ.out.pushB [92, 92] (by have := HK.out; have := HL.out; have := HI.out; simp; omega)
     have hqb : qa 92 = [92, 92] := rfl
     have HR := Za hr
     rw [hqb] at HT
     have HQ2 : Hid (Bs w w1 w' a' k' c' (Zo (34 :: (xs.take (i + 1)).flatMap qa))) := by rw [HT.out]; have := Zav [] ((xs.take i).flatMap qa) [92, 92]; simp only [List.nil_append] at this; rw [← this]; exact hq
     have HK2 : Hid (k' ≤ 4 * (i + 1) + 1) := by show k' ≤ 4 * (i + 1) + 1; have h := HQ.out.step hq; have := HK.out; simp [Zo] at h; omega
     clear hr hq hqb HT HQ HK HI
     go_wp2_with (at_builtin; refine Zr rfl (.tmp 33) (.tmp 35) 23 23 rfl _ _ rfl rfl _ w' HR.out ?_)
     go_roundw
     case rel => exact ⟨i + 1, by go_num, _, _, _, rfl, hlt, HQ2, HK2⟩
     case measure => simp [intOf]; omega
   have e1 : (x == 92) = false := by simp; omega
   have e2 : (x == 34) = false := by simp; omega
   by_cases h4 : x < 32 ∨ 126 < x
   ·rcases h4 with h4 | h4
    ·have hkd : Kept nF wr wr.drew := (Kept.refl _ _).drew
     have HQd := Za (HQ.out.same hkd)
     have g1 : ¬ (32 : Int) ≤ x := by omega
     have g1b : decide ((32 : Int) ≤ x) = false := decide_eq_false g1
     go_upto_region 6 with fail
     refine wp_region_held_drew (S := fun _ => True) (by kernel_rfl) trivial (fun qh => ?_)
     generalize wr.drew = wd at *
     obtain ⟨a', k', c', w', hr, hq⟩ := HQd.out.pushB [92, 120, Xv (x / 16), Xv (x % 16)] (by have := HK.out; have := HL.out; have := HI.out; simp; omega)
     have hqb : qa x = [92, 120, Xv (x / 16), Xv (x % 16)] := by unfold qa; rw [if_neg h1, if_pos (by omega)]
     have HR := Za hr
     rw [hqb] at HT
     have HQ2 : Hid (Bs w w1 w' a' k' c' (Zo (34 :: (xs.take (i + 1)).flatMap qa))) := by rw [HT.out]; have := Zav [] ((xs.take i).flatMap qa) [92, 120, Xv (x / 16), Xv (x % 16)]; simp only [List.nil_append] at this; rw [← this]; exact hq
     have HK2 : Hid (k' ≤ 4 * (i + 1) + 1) := by show k' ≤ 4 * (i + 1) + 1; have h := HQd.out.step hq; have := HK.out; simp [Zo] at h; omega
     have hd1 := fun w => Zb2 w (x / 16) (by omega) (by omega)
     have hd2 := fun w => Zb2 w (x % 16) (by omega) (by omega)
     have hq16 := Zs9 x hc0 hc1
     have hr16 := Zta x hc0
     clear hr hq hqb HT HQ HK HI HQd hkd h1 h4 e1 e2 g1 g1b
     iterate 7
      refine tkn (v := ?_) 0 rfl ?_ ?_; rotate_left
      ·intro w hSw; go_simp; try with_reducible rfl
      try simp only [Act.put, tdy]
     refine rdy 7 rfl (fun K hK => ?_)
     go_simp
     refine hK.out _ _ trivial (fun qh => ?_)
     clear hK K
     try simp only [Act.put, tdy]
     refine rdy 8 rfl (fun K hK => ?_)
     refine Zm rfl (.tmp 17) (.tmp 24) 23 23 rfl _ _ rfl rfl (.slice a' k' c') w' HR.out ?_
     refine hK.out _ _ trivial (fun qh => ?_)
     clear hK K
     try simp only [Act.put, tdy]
     refine rdy 9 rfl (fun K hK => ?_)
     go_simp
     refine hK.out _ _ trivial (fun qh => ?_)
     clear hK K
     try simp only [Act.put, tdy]
     refine wpAnyH_done (by kernel_rfl) ?_ _
     go_wp2
     go_roundw
     case rel => exact ⟨i + 1, by go_num, _, _, _, rfl, hlt, HQ2, HK2⟩
     case measure => simp [intOf]; omega
    ·have hkd : Kept nF wr wr.drew := (Kept.refl _ _).drew
     have HQd := Za (HQ.out.same hkd)
     have g1 : (32 : Int) ≤ x := by omega
     have g2 : ¬ x ≤ (126 : Int) := by omega
     have g2b : decide (x ≤ (126 : Int)) = false := decide_eq_false g2
     go_upto_region 6 with fail
     refine wp_region_held_drew (S := fun _ => True) (by kernel_rfl) trivial (fun qh => ?_)
     generalize wr.drew = wd at *
     obtain ⟨a', k', c', w', hr, hq⟩ := HQd.out.pushB [92, 120, Xv (x / 16), Xv (x % 16)] (by have := HK.out; have := HL.out; have := HI.out; simp; omega)
     have hqb : qa x = [92, 120, Xv (x / 16), Xv (x % 16)] := by unfold qa; rw [if_neg h1, if_pos (by omega)]
     have HR := Za hr
     rw [hqb] at HT
     have HQ2 : Hid (Bs w w1 w' a' k' c' (Zo (34 :: (xs.take (i + 1)).flatMap qa))) := by rw [HT.out]; have := Zav [] ((xs.take i).flatMap qa) [92, 120, Xv (x / 16), Xv (x % 16)]; simp only [List.nil_append] at this; rw [← this]; exact hq
     have HK2 : Hid (k' ≤ 4 * (i + 1) + 1) := by show k' ≤ 4 * (i + 1) + 1; have h := HQd.out.step hq; have := HK.out; simp [Zo] at h; omega
     have hd1 := fun w => Zb2 w (x / 16) (by omega) (by omega)
     have hd2 := fun w => Zb2 w (x % 16) (by omega) (by omega)
     have hq16 := Zs9 x hc0 hc1
     have hr16 := Zta x hc0
     clear hr hq hqb HT HQ HK HI HQd hkd h1 h4 e1 e2 g1 g2 g2b
     iterate 7
      refine tkn (v := ?_) 0 rfl ?_ ?_; rotate_left
      ·intro w hSw; go_simp; try with_reducible rfl
      try simp only [Act.put, tdy]
     refine rdy 7 rfl (fun K hK => ?_)
     go_simp
     refine hK.out _ _ trivial (fun qh => ?_)
     clear hK K
     try simp only [Act.put, tdy]
     refine rdy 8 rfl (fun K hK => ?_)
     refine Zm rfl (.tmp 17) (.tmp 24) 23 23 rfl _ _ rfl rfl (.slice a' k' c') w' HR.out ?_
     refine hK.out _ _ trivial (fun qh => ?_)
     clear hK K
     try simp only [Act.put, tdy]
     refine rdy 9 rfl (fun K hK => ?_)
     go_simp
     refine hK.out _ _ trivial (fun qh => ?_)
     clear hK K
     try simp only [Act.put, tdy]
     refine wpAnyH_done (by kernel_rfl) ?_ _
     go_wp2
     go_roundw
     case rel => exact ⟨i + 1, by go_num, _, _, _, rfl, hlt, HQ2, HK2⟩
     case measure => simp [intOf]; omega
   have e5 : (32 : Int) ≤ x := by omega
   have e6 : x ≤ (126 : Int) := by omega
   obtain ⟨a', k', c', w', hr, hq⟩ := HQ.out.pushB [x] (by have := HK.out; have := HL.out; have := HI.out; simp; omega)
   have hqb : qa x = [x] := by unfold qa; rw [if_neg h1, if_neg h4]
   have HR := Za hr
   rw [hqb] at HT
   have HQ2 : Hid (Bs w w1 w' a' k' c' (Zo (34 :: (xs.take (i + 1)).flatMap qa))) := by rw [HT.out]; have := Zav [] ((xs.take i).flatMap qa) [x]; simp only [List.nil_append] at this; rw [← this]; exact hq
   have HK2 : Hid (k' ≤ 4 * (i + 1) + 1) := by show k' ≤ 4 * (i + 1) + 1; have h := HQ.out.step hq; have := HK.out; simp [Zo] at h; omega
   clear hr hq hqb HT HQ HK HI
   go_wp2_with (at_builtin; refine Zr rfl (.tmp 44) (.tmp 46) 23 23 rfl _ _ rfl rfl _ w' HR.out ?_)
   go_roundw
   case rel => exact ⟨i + 1, by go_num, _, _, _, rfl, hlt, HQ2, HK2⟩
   case measure => simp [intOf]; omega
  ·have hnlt : ¬ (i : Int) < (n : Int) := by omega
   obtain ⟨a', k', c', w', hr, hq⟩ := HQ.out.pushB [34] (by have := HK.out; have := HL.out; have := HI.out; simp; omega)
   have HR := Za hr
   have hq2 : Bs w w1 w' a' k' c' (Zo (Xr xs)) := by
    have := HI.out; have := HN.out
    rw [List.take_of_length_le (by omega)] at hq
    have e : Zo (34 :: xs.flatMap qa) ++ Zo [34] = Zo (Xr xs) := by simp [Zo, Xr]
    rw [e] at hq
    exact hq
   have hcv := Zaf w' (.slice a' k' c') (Xr xs) (Zbc hq2.own)
   have HKK := Za hq2.kept
   clear hr hq hq2
   go_wp2_with (at_builtin; refine Zr rfl (.tmp 48) (.tmp 49) 23 23 rfl _ _ rfl rfl _ w' HR.out ?_)
   go_ret
   exact ⟨rfl, HKK.out⟩
theorem Zsb (l : List Value) (o : Nat) (v : Value) (h : o < l.length) : (l.set o v).take (o + 1) = l.take o ++ [v] := by
 rw [List.take_succ_eq_append_getElem (by simpa using h), List.getElem_set_self, List.take_set, List.set_eq_of_length_le (by simp; omega)]
theorem Zdv (g t : Nat) (fz : Nat × Nat) : ∀ (vs : List Value) (o : Nat) (w : World) (cur : Array Value), w.heap[g]? = some (.cells cur t fz) → o + vs.length ≤ cur.size → ∃ cur' : Array Value, (w.setCells g o vs).heap[g]? = some (.cells cur' t fz) ∧ cur'.size = cur.size ∧ cur'.toList.take (o + vs.length) = cur.toList.take o ++ vs
 | [], o, w, cur, h, _ => ⟨cur, h, rfl, by simp⟩
 | v :: r, o, w, cur, h, hl => by
  simp only [List.length_cons] at hl
  obtain ⟨cur', h1, h2, h3⟩ := Zdv g t fz r (o + 1) (w.setCell ⟨g, o, none⟩ v) _ (Zf _ _ _ _ _ _ h v) (by simp; omega)
  refine ⟨cur', h1, by simpa using h2, ?_⟩
  rw [List.length_cons, show o + (r.length + 1) = o + 1 + r.length by omega, h3, Array.toList_setIfInBounds, Zsb _ _ _ (by simp; omega)]
  simp
structure Bm (w0 w1 wr : World) (g m c : Nat) (zs : List Value) : Prop where
 lo : w0.heap.size ≤ g
 blk : ∃ (cur : Array Value) (fz : Nat × Nat), wr.heap[g]? = some (.cells cur 5 fz) ∧ cur.size = c ∧ (fz = (0, 0) ∨ fz.1 = c) ∧ cur.toList.take m = zs
 len : m = zs.length
 mc : m ≤ c
 kept : Kept nF w0 wr
 oth : Lib.OthersKept 5 none w1 wr
theorem Zfd (g : Nat) (vs : List Value) (o : Nat) (w : World) : Kept (fun k => k = g) w (w.setCells g o vs) := by
 have hk : ∀ (vs : List Value) (o : Nat) (w1 : World), Kept (fun k => k = g) w w1 → Kept (fun k => k = g) w (w1.setCells g o vs) := by
  intro vs
  induction vs with
  | nil => exact fun o w1 h => h
  | cons v r ih => exact fun o w1 h => ih _ _ (h.setCell (.inr rfl) _)
 exact hk vs o w (Kept.refl _ _)
theorem Bm.pushS {w0 w1 wr : World} {g m c : Nat} {zs : List Value} (h : Bm w0 w1 wr g m c zs) (s : ByteArray) (hl : m + s.size ≤ 140737488355328) :
  ∃ g' m' c' w', (Builtin.append_ #[23, 9] 23 #[.slice (some ⟨g, 0, none⟩) m c, .string s]).run Tryz.prog wr = .ok (.slice (some ⟨g', 0, none⟩) m' c') w' ∧ Bm w0 w1 w' g' m' c' (zs ++ Lib.strCells s) := by
 obtain ⟨i0, hi, hz0, hz1, hz2⟩ := info_parts Tryz.info5
 obtain ⟨cur, fz, hg, hcs, hfz, htk⟩ := h.blk
 have hmc := h.mc
 have hsl := Lib.strCells_length s
 by_cases hroom : m + s.size ≤ c
 ·have hf := Lib.run_firstCells_string (P := Tryz.prog) wr 1 s
  have hfr : ∀ j, j < c → wr.frozen? ⟨g, j, none⟩ = false := fun j hj => by
   simp only [World.frozen?, hg]
   rcases hfz with rfl | hfz
   ·simp
   ·simp; omega
  have hst := run_storeCells_cells (P := Tryz.prog) g m (Lib.strCells s) 0 wr (fun j hj => by
   rw [Nat.add_zero, Zb _ _ _ _ _ _ hg]
   simp only [Array.getElem?_eq_getElem (show m + j < cur.size by omega), Option.isSome_some]) (fun j hj => hfr _ (by omega)) (Lib.strCells_oneCell s)
  rw [Nat.add_zero] at hst
  have hr : (Builtin.append_ #[23, 9] 23 #[.slice (some ⟨g, 0, none⟩) m c, .string s]).run Tryz.prog wr = .ok (.slice (some ⟨g, 0, none⟩) (m + s.size) c) (wr.setCells g m (Lib.strCells s)) := by
   simp [Builtin.append_, run_underlying Tryz.underlying23, run_underlying Tryz.underlying9, sizeOf, typeInfo, hi, hz1, Builtin.lenOf, hroom, hf, Addr.add_lit, hst]
  obtain ⟨cur', h1, h2, h3⟩ := Zdv g 5 fz (Lib.strCells s) m wr cur hg (by omega)
  have hk1 := Zfd g (Lib.strCells s) m wr
  refine ⟨g, _, c, _, hr, ⟨h.lo, ⟨cur', fz, h1, by omega, hfz, by rw [← hsl, h3, htk]⟩, by rw [List.length_append, hsl, ← h.len], hroom, h.kept.step hk1 (fun i hi e => by have := h.lo; omega), h.oth.trans (fun k o hk' _ hn => Zc hk1 hk' (fun e => ?_))⟩⟩
  subst e
  rw [hg] at hk'
  cases hk'
  exact hn _ _ rfl
 ·have holds : ∀ j u, zs[j]? = some u → wr.cell? ((⟨g, 0, none⟩ : Addr).add j) = some u := fun j u hu => by
   have hj : j < m := by have := (List.getElem?_eq_some_iff.1 hu).1; have := h.len; omega
   rw [Addr.add_lit, Nat.zero_add, Zb _ _ _ _ _ _ hg, ← hu, ← htk, List.getElem?_take_of_lt hj]
   simp
  have hr := Lib.run_append_grow_string (P := Tryz.prog) wr 23 9 23 5 i0 _ Tryz.underlying23 Tryz.underlying9 hi hz0 ⟨g, 0, none⟩ m c zs (by rw [hz1]; have := h.len; omega) holds s (by omega) (by omega) (by rw [hz2]; exact growslice_fits (by omega) (by omega))
  have hge := grownCap_ge wr (m + s.size) c 5
  have hk1 : Kept nF wr (wr.drew.alloc (.cells (zs.toArray ++ (Lib.strCells s).toArray ++ Builtin.zeroCells (Value.int .u8 0).cells (grownCap wr (m + s.size) c 5 - (m + s.size))) 5)) := (Kept.refl _ _).drew.alloc _
  refine ⟨_, _, _, _, hr, ⟨h.kept.size, ⟨_, (0, 0), heap_alloc_new wr.drew _, ?_, .inl rfl, ?_⟩, by rw [List.length_append, hsl, ← h.len], hge, h.kept.trans hk1, h.oth.trans (Zab hk1)⟩⟩
  ·have hz1 : (Value.int IntKind.u8 0).cells.size = 1 := rfl
   have := h.len
   simp only [Array.size_append, List.size_toArray, size_zeroCells, hz1, hsl]
   omega
  ·have e : m + s.size = (zs ++ Lib.strCells s).length := by rw [List.length_append, hsl, ← h.len]
   simp only [Array.toList_append, List.append_assoc]
   rw [← List.append_assoc, e]
   exact List.take_left
theorem Bm.step {w0 w1 wr w' : World} {g m c g' m' c' : Nat} {zs ns : List Value} (h : Bm w0 w1 wr g m c zs) (h' : Bm w0 w1 w' g' m' c' (zs ++ ns)) : m' = m + ns.length := by
 rw [h.len, h'.len, List.length_append]
theorem Bm.here {w0 w1 wr w2 : World} {g m c : Nat} {zs : List Value} (h : Bm w0 w1 wr g m c zs) (hk : Kept nF wr w2) : Bm w0 w2 w2 g m c zs := by
 obtain ⟨cur, fz, hg, rest⟩ := h.blk
 exact ⟨h.lo, ⟨cur, fz, Zc hk hg id, rest⟩, h.len, h.mc, h.kept.trans hk, Lib.OthersKept.refl _ _ _⟩
theorem Bm.same {w0 w1 wr w2 : World} {g m c : Nat} {zs : List Value} (h : Bm w0 w1 wr g m c zs) (hk : Kept nF wr w2) : Bm w0 w1 w2 g m c zs := by
 obtain ⟨cur, fz, hg, rest⟩ := h.blk
 exact ⟨h.lo, ⟨cur, fz, Zc hk hg id, rest⟩, h.len, h.mc, h.kept.trans hk, h.oth.trans (Zab hk)⟩
theorem Bm.rebase {w0 w1 w2 wr : World} {g m c : Nat} {zs : List Value} (h : Bm w0 w2 wr g m c zs) (ho : Lib.OthersKept 5 none w1 w2) : Bm w0 w1 wr g m c zs := ⟨h.lo, h.blk, h.len, h.mc, h.kept, ho.trans h.oth⟩
theorem Zpo (w0 w : World) (hk : Kept nF w0 w) (s : ByteArray) : ∃ c w', (convert 9 23 (.string s)).run Tryz.prog w = .ok (.slice (some ⟨w.heap.size, 0, none⟩) s.size c) w' ∧ Bm w0 w' w' w.heap.size s.size c (Lib.strCells s) ∧ Kept nF w w' := by
 have hr := Lib.run_convert_string_bytes (P := Tryz.prog) w 9 23 5 s Tryz.underlying9 Tryz.underlying23 Tryz.underlying5
 have hk1 : Kept nF w (Lib.bytesWorld w 5 s) := by
  refine ⟨?_, ?_, ?_, ?_, fun k hk _ => Lib.bytesWorld_at_old w 5 s k hk⟩
  ·rfl
  ·rfl
  ·rfl
  ·rw [Lib.bytesWorld_size]; omega
 have hge := grownCap_ge w s.size 0 5
 have hsz : (Lib.bytesCells w 5 s).size = grownCap w s.size 0 5 := by
  have : s.data.size = s.size := rfl
  simp only [Lib.bytesCells, Array.size_append, Array.size_map, Array.size_replicate, this]
  omega
 refine ⟨_, _, hr, ⟨hk.size, ⟨_, _, Lib.bytesWorld_at_new w 5 s, hsz, .inr hsz, ?_⟩, (Lib.strCells_length s).symm, hge, hk.trans hk1, Lib.OthersKept.refl _ _ _⟩, hk1⟩
 have e : s.size = (Lib.strCells s).length := (Lib.strCells_length s).symm
 rw [e]
 simp only [Lib.bytesCells, Array.toList_append]
 rw [show (s.data.map fun b => Value.int IntKind.u8 (b.toNat : Int)).toList = Lib.strCells s by simp [Lib.strCells]]
 exact List.take_left
theorem Bm.isB {w0 w1 wr : World} {g m c : Nat} {xs : List Int} (h : Bm w0 w1 wr g m c (Zo xs)) : IsB wr (.slice (some ⟨g, 0, none⟩) m c) xs := by
 obtain ⟨cur, fz, hg, hcs, hfz, htk⟩ := h.blk
 have hl : m = xs.length := by have := h.len; simpa [Zo] using this
 subst hl
 refine .inr ⟨g, 0, c, rfl, fun i hi => ?_⟩
 have h2 : (cur.toList.take xs.length)[i]? = (Zo xs)[i]? := by rw [htk]
 rw [List.getElem?_take_of_lt hi] at h2
 rw [Zb _ _ _ _ _ _ hg, Nat.zero_add]
 have h3 : (Zo xs)[i]? = some (.int .u8 (xs.getD i 0)) := by simp [Zo, hi]
 rw [h3] at h2
 simpa using h2
theorem Zpp (m : Int) : Lib.strCells ((⟨#[109, 101, 109, 111, 114, 121, 32]⟩ : ByteArray) ++ Wb m ++ ⟨#[10]⟩) = Zca ++ Zb9 m ++ [.int .u8 10] := by
 rw [Yr, Yr, Za5]
 rfl
theorem Znn (k : Nat) (f : FN) : Lib.strCells ((⟨#[102, 117, 110, 99, 32, 102]⟩ : ByteArray) ++ Wb (k : Int) ++ ⟨#[32]⟩ ++ Wb f.a ++ ⟨#[32]⟩ ++ Wb f.l ++ ⟨#[32]⟩ ++ Wb f.r ++ ⟨#[10]⟩) = hdF k f 3 ++ [.int .u8 10] := by
 rw [Yr, Yr, Yr, Yr, Yr, Yr, Yr, Yr, Za5, Za5, Za5, Za5]
 have e : Lib.strCells ⟨#[102, 117, 110, 99, 32, 102]⟩ = Lib.strCells ⟨#[102, 117, 110, 99, 32]⟩ ++ [.int .u8 102] := rfl
 have e2 : Lib.strCells ⟨#[32]⟩ = [Value.int .u8 32] := rfl
 have e3 : Lib.strCells ⟨#[10]⟩ = [Value.int .u8 10] := rfl
 rw [e, e2, e3]
 simp [hdF, Zb9]
theorem Zlp (i : Nat) : Lib.strCells ((⟨#[76]⟩ : ByteArray) ++ Wb (i : Int) ++ ⟨#[58, 10]⟩) = Wm true i := by
 rw [Yr, Yr, Za5]
 rfl
theorem Zlq (op a pl fs : Int) : Lib.strCells ((⟨#[9]⟩ : ByteArray) ++ (Yd Zj op).nm ++ opS (Yd Zj op) a pl fs ++ ⟨#[10]⟩) = Zdt op a pl fs := by
 rw [Yr, Yr, Yr, Zix]
 rfl
theorem Zsc (op a pl fs : Int) (h0 : -9223372036854775808 ≤ a) (h1 : a < 9223372036854775808) : (opS (Yd Zj op) a pl fs).size ≤ 150 := by
 have h := Zkt op a pl fs h0 h1
 have h2 := Lib.strCells_length (opS (Yd Zj op) a pl fs)
 rw [Zix] at h2
 have h5 : (We (Yd Zj op) a pl fs).length ≤ 101 := by
  have h2 := Zbe a h0 (by omega)
  have h4 := Zd3 a
  unfold We
  split
  ·simp
  ·split
   ·simp [Lib.byteCells_length]; omega
   ·split
    ·simp [Lib.byteCells_length]; omega
    ·split
     ·simp only [List.length_cons, Za8]; omega
     ·simp [Lib.byteCells_length]; omega
 omega
theorem Zpq (l : List Int) (h : ∀ x ∈ l, 0 ≤ x ∧ x ≤ 255) : Lib.strCells (str l) = Zo l := by
 have e : (str l).data.toList = l.map (fun n => UInt8.ofNat n.toNat) := by
  unfold str
  rw [Zfn]
  simp
 unfold Lib.strCells Zo
 rw [e, List.map_map]
 refine List.map_congr_left (fun x hx => ?_)
 obtain ⟨h0, h1⟩ := h x hx
 simp only [Function.comp, UInt8.toNat_ofNat']
 congr 1
 omega
theorem Zsd (c : Int) (h : 0 ≤ c ∧ c ≤ 255) : ∀ x ∈ qa c, 0 ≤ x ∧ x ≤ 255 := by
 intro x hx
 have hd : ∀ k : Int, 0 ≤ k → k < 16 → 0 ≤ Xv k ∧ Xv k ≤ 255 := fun k h0 h1 => by unfold Xv; split <;> omega
 have h1 := hd (c / 16) (by omega) (by omega)
 have h2 := hd (c % 16) (by omega) (by omega)
 unfold qa at hx
 split at hx
 ·simp at hx; omega
 ·split at hx
  ·simp at hx
   rcases hx with rfl | rfl | rfl | rfl <;> omega
  ·simp at hx; omega
theorem Zky (xs : List Int) (hb : ∀ x ∈ xs, 0 ≤ x ∧ x ≤ 255) : ∀ x ∈ Xr xs, 0 ≤ x ∧ x ≤ 255 := by
 intro x hx
 unfold Xr at hx
 rcases List.mem_append.1 hx with h | h
 ·rcases List.mem_cons.1 h with h | h
  ·omega
  ·obtain ⟨c, hc, hm⟩ := List.mem_flatMap.1 h
   exact Zsd c (hb c hc) x hm
 ·simp at h; omega
theorem Zno (xs : List Int) (hb : ∀ x ∈ xs, 0 ≤ x ∧ x ≤ 255) : Lib.strCells ((⟨#[100, 97, 116, 97, 32]⟩ : ByteArray) ++ str (Xr xs) ++ ⟨#[10]⟩) = Lib.strCells ⟨#[100, 97, 116, 97, 32]⟩ ++ Zo (Xr xs) ++ [.int .u8 10] := by
 rw [Yr, Yr, Zpq (Xr xs) (Zky xs hb)]
 rfl
end Go.Proofs.YtgoabnehdmdikaaGreatDoor

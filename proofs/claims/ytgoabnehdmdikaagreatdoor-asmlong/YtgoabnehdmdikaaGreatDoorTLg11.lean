import Derived.Test.YtgoabnehdmdikaaGreatDoorTLg6
import Derived.Test.YtgoabnehdmdikaaGreatDoorTLg10
import Derived.Test.YtgoabnehdmdikaaGreatDoorTLg2
import Derived.Deep.Strs
import Derived.Laws.IdiomStrings
import Derived.Test.YtgoabnehdmdikaaGreatDoorTLg3
import Derived.Test.YtgoabnehdmdikaaGreatDoorTLg7
import Derived.Test.YtgoabnehdmdikaaGreatDoorTLg5
set_option linter.unusedVariables false
set_option linter.unusedSimpArgs false
set_option maxRecDepth 100000
set_option maxHeartbeats 64000000
namespace Go.Proofs.YtgoabnehdmdikaaGreatDoor
open Go.RowKit
structure Fnc where
 nm : ByteArray
 a : Int
 l : Int
 r : Int
 ls : List (ByteArray × Int)
 code : List IN
structure Wt where
 ln : Int
 fn : Nat
 pl : Nat
 nm : ByteArray
 jump : Bool
structure Rdr where
 mem : Int
 sized : Bool
 data : List Int
 fs : List Fnc
 ws : List Wt
def lkA : List (ByteArray × Int) → ByteArray → Option Int
 | [], _ => none
 | (k, v) :: L, s => if s = k then some v else lkA L s
theorem Zjp : ∀ (L : List (ByteArray × Int)) (k : ByteArray) (v : Int) (s : ByteArray), lkA (L ++ [(k, v)]) s = match lkA L s with | some x => some x | none => if s = k then some v else none
 | [], k, v, s => rfl
 | (a, b) :: L, k, v, s => by
  rw [List.cons_append, lkA, lkA]
  split
  ·rfl
  ·exact Zjp L k v s
def nmL : Nat → List Fnc → List (ByteArray × Int)
 | _, [] => []
 | k, f :: fs => (f.nm, (k : Int)) :: nmL (k + 1) fs
theorem Zjq : ∀ (k : Nat) (fs : List Fnc) (f : Fnc), nmL k (fs ++ [f]) = nmL k fs ++ [(f.nm, ((k + fs.length : Nat) : Int))]
 | k, [], f => by simp [nmL]
 | k, g :: fs, f => by
  rw [List.cons_append, nmL, nmL, List.cons_append, Zjq (k + 1) fs f]
  congr 4
  simp
  omega
theorem Zeq : ∀ (k : Nat) (fs gs : List Fnc), fs.map Fnc.nm = gs.map Fnc.nm → nmL k fs = nmL k gs
 | k, [], [], _ => rfl
 | k, [], g :: gs, h => by simp at h
 | k, f :: fs, [], h => by simp at h
 | k, f :: fs, g :: gs, h => by
  simp only [List.map_cons, List.cons.injEq] at h
  rw [nmL, nmL, h.1, Zeq (k + 1) fs gs h.2]
def ixN (L : List Sh) (s : ByteArray) : Option Nat := if Za2 L s < L.length then some (Za2 L s) else none
theorem Zer (L : List Sh) (s : ByteArray) : Zai L s = match ixN L s with | some n => .tuple #[.int .i64 (n : Int), .bool true] | none => .tuple #[.int .i64 0, .bool false] := by
 unfold Zai ixN
 by_cases h : Za2 L s < L.length
 ·rw [if_pos h, if_pos h]
 ·rw [if_neg h, if_neg h]
theorem Zeh {L : List Sh} {s : ByteArray} {n : Nat} (h : ixN L s = some n) : n < L.length := by
 unfold ixN at h
 by_cases h1 : Za2 L s < L.length
 ·rw [if_pos h1] at h
  cases h
  exact h1
 ·rw [if_neg h1] at h
  cases h
def Zbh (n : Nat) (kd : Int) : List Pf → Option (Int × Int × ByteArray)
 | [] => if kd = 0 then some ((n : Int), 0, ⟨#[]⟩) else none
 | q :: r => if kd = 0 then none else if r = [] then (if q.k = 1 then some ((n : Int), q.n, ⟨#[]⟩) else if q.k = 0 then (if kd = 3 ∨ kd = 4 then some ((n : Int), 0, q.s) else if kd = 5 then (match ixN Zk q.s with | some c => some ((n : Int), (c : Int), ⟨#[]⟩) | none => none) else none) else none) else none
def Zar : List Pf → Option (Int × Int × ByteArray)
 | [] => none
 | p :: r => if p.k = 0 then (match ixN Zj p.s with | some n => Zbh n (Yd Zj (n : Int)).o r | none => none) else none
def Xu (f : Fnc) : List ByteArray → Option Fnc
 | [] => some f
 | s :: ss => if (lkA f.ls s).isSome = true then none else Xu ⟨f.nm, f.a, f.l, f.r, f.ls ++ [(s, (f.code.length : Int))], f.code⟩ ss
def Zbt (k : Nat) (f : Fnc) (n op : Int) (w : ByteArray) : List Wt := if w = ⟨#[]⟩ then [] else [⟨n, k, f.code.length, w, !decide (op = 17)⟩]
def Xh (f : Fnc) (op a : Int) : Fnc := ⟨f.nm, f.a, f.l, f.r, f.ls, f.code ++ [⟨op, a⟩]⟩
inductive RR where
 | bad (e : Int)
 | good (R : Rdr)
def Zc3 (R : Rdr) (gs : List Fnc) (f : Fnc) (n : Int) (ls : List ByteArray) (l : List Pf) : RR :=
 if l ≠ [] ∧ Zar l = none then .bad 141
 else if l.any Pf.f = true then .bad 143
 else match Xu f ls with
  | none => .bad 142
  | some g => if l = [] then .good ⟨R.mem, R.sized, R.data, gs ++ [g], R.ws⟩ else match Zar l with
   | none => .bad 141
   | some (op, a, w) => .good ⟨R.mem, R.sized, R.data, gs ++ [Xh g op a], R.ws ++ Zbt gs.length g n op w⟩
def Za1 (R : Rdr) (n : Int) (ls : List ByteArray) (l : List Pf) : RR := match R.fs.getLast? with | none => .bad 141 | some f => Zc3 R R.fs.dropLast f n ls l
theorem Zh8 (R : Rdr) (n : Int) (ls : List ByteArray) (l : List Pf) (h : R.fs = []) : Za1 R n ls l = .bad 141 := by unfold Za1; rw [h]; rfl
theorem Zgv (R : Rdr) (n : Int) (ls : List ByteArray) (l : List Pf) (gs : List Fnc) (f : Fnc) (h : R.fs = gs ++ [f]) : Za1 R n ls l = Zc3 R gs f n ls l := by unfold Za1; rw [h]; simp
def Zch (R : Rdr) (l : List Pf) : RR := if R.sized = true ∨ R.fs ≠ [] ∨ l.map Pf.k ≠ [1] then .bad 141 else if l.any Pf.f = true then .bad 143 else .good ⟨(l.map Pf.n).headD 0, true, R.data, R.fs, R.ws⟩
def Xy (s : ByteArray) : List Int := s.data.toList.map (fun b => (b.toNat : Int))
def Zdd (R : Rdr) (l : List Pf) : RR := if R.fs ≠ [] ∨ l.map Pf.k ≠ [2] then .bad 141 else .good ⟨R.mem, R.sized, R.data ++ Xy ((l.map Pf.s).headD ⟨#[]⟩), R.fs, R.ws⟩
def Zco (R : Rdr) : List Pf → RR
 | [p, q1, q2, q3] => if [p.k, q1.k, q2.k, q3.k] ≠ [0, 1, 1, 1] then .bad 141 else if (p.f || (q1.f || (q2.f || q3.f))) = true then .bad 143 else if (lkA (nmL 0 R.fs) p.s).isSome = true then .bad 142 else .good ⟨R.mem, R.sized, R.data, R.fs ++ [⟨p.s, q1.n, q2.n, q3.n, [], []⟩], R.ws⟩
 | _ => .bad 141
abbrev Zhk : ByteArray := ⟨#[109, 101, 109, 111, 114, 121]⟩
abbrev Zhl : ByteArray := ⟨#[100, 97, 116, 97]⟩
abbrev Zhm : ByteArray := ⟨#[102, 117, 110, 99]⟩
def Zes (R : Rdr) (n : Int) : List Pf → RR
 | [] => .good R
 | p :: l => if p.k ≠ 0 then .bad 141 else if p.s = Zhk then Zch R l else if p.s = Zhl then Zdd R l else if p.s = Zhm then Zco R l else Za1 R n [] (p :: l)
def Zb3 (R : Rdr) (n : Int) (o : Option (List Pf)) : RR := match o with
 | none => .bad 141
 | some ps => if (Yl ps).1 = [] then Zes R n (Yl ps).2 else Za1 R n (Yl ps).1 (Yl ps).2
def Xp : Rdr → Int → List (List UInt8) → (Int × Int) ⊕ Rdr
 | R, _, [] => .inr R
 | R, n, l :: ls => match Zb3 R n (Yc l) with | .bad e => .inl (n, e) | .good R' => Xp R' (n + 1) ls
def Zdx (s : ByteArray) : Nat → Nat → Nat → Nat → ByteArray
 | 0, _, _, _ => ⟨#[]⟩
 | f + 1, n, fr, i => if i < s.size then (if (s.data[i]?.getD 0).toNat ≠ 32 then Zdx s f n fr (i + 1) else if n = 0 then s.extract fr i else Zdx s f (n - 1) (i + 1) (i + 1)) else ⟨#[]⟩
def Zet (s : ByteArray) (n : Nat) : ByteArray := Zdx s (s.size + 1) n 0 0
theorem Zgw (s : ByteArray) (f n fr i : Nat) : Zdx s (f + 1) n fr i = if i < s.size then (if (s.data[i]?.getD 0).toNat ≠ 32 then Zdx s f n fr (i + 1) else if n = 0 then s.extract fr i else Zdx s f (n - 1) (i + 1) (i + 1)) else ⟨#[]⟩ := rfl
theorem Zqt (s : ByteArray) (n : Nat) (w : World) (hs : s.size ≤ 1000) (hn : n ≤ 1000) :
  Calls Tryz.prog 49 #[.string s, .int .i64 (n : Int)] w fun e w' => e = .returned (.string (Zet s n)) ∧ w' = w := by
 have HP : Hid (Zet s n = Zdx s (s.size + 1) n 0 0) := rfl
 generalize Zet s n = r at *
 go_enter Tryz.func49, Tryz.ntmps49
 go_wp2
 go_loopw [1, 5, 6] (fun nv fv iv wr => ∃ (m fr i : Nat), m ≤ 1000 ∧ fr ≤ i ∧ i ≤ s.size ∧ nv = .int .i64 (m : Int) ∧ fv = .int .i64 (fr : Int) ∧ iv = .int .i64 (i : Int) ∧ r = Zdx s (s.size + 1 - i) m fr i ∧ wr = w) (fun _ _ iv _ => s.size - (intOf iv).toNat)
 case atStart => exact ⟨n, 0, 0, hn, by omega, by omega, rfl, rfl, rfl, HP.out, rfl⟩
 case round =>
  obtain ⟨m, fr, i, hm, hfi, hi, rfl, rfl, rfl, hr, rfl⟩ := hrel
  clear HP
  by_cases hlt : i < s.size
  ·have hiI : (i : Int) < (s.size : Int) := by omega
   rw [show s.size + 1 - i = (s.size - i) + 1 by omega, Zgw, if_pos hlt] at hr
   have hd : (s.data[i]?.getD 0).toNat = (s[i]'hlt).toNat := by
    have : i < s.data.size := hlt
    simp [Array.getElem?_eq_getElem this]
    rfl
   rw [hd] at hr
   by_cases hb : (s[i]'hlt).toNat = 32
   ·rw [if_neg (by omega)] at hr
    have hbI : (((s[i]'hlt).toNat : Int) != 32) = false := by simp [hb]
    by_cases h0 : m = 0
    ·rw [if_pos h0] at hr
     have HR := Za hr
     subst h0
     clear hr hd
     go_wp2
     go_ret
     exact ⟨by rw [HR.out]; rfl, rfl⟩
    ·rw [if_neg h0] at hr
     have h0I : ((m : Int) == 0) = false := by simp [h0]
     have HR := Za hr
     clear hr hd
     go_wp2
     go_roundw
     case rel => exact ⟨m - 1, i + 1, i + 1, by omega, by omega, by omega, by congr 1; go_num, by go_num, by go_num, by rw [show s.size + 1 - (i + 1) = s.size - i by omega]; exact HR.out, trivial⟩
     case measure => simp [intOf]; omega
   ·rw [if_pos hb] at hr
    have hbI : (((s[i]'hlt).toNat : Int) != 32) = true := by simp; omega
    have HR := Za hr
    clear hr hd
    go_wp2
    go_roundw
    case rel => exact ⟨m, fr, i + 1, hm, by omega, by omega, rfl, rfl, by go_num, by rw [show s.size + 1 - (i + 1) = s.size - i by omega]; exact HR.out, trivial⟩
    case measure => simp [intOf]; omega
  ·have hiI : (s.size : Int) ≤ (i : Int) := by omega
   rw [show s.size + 1 - i = (s.size - i) + 1 by omega, Zgw, if_neg hlt] at hr
   have HR := Za hr
   clear hr
   go_wp2
   go_ret
   exact ⟨by rw [HR.out]; rfl, rfl⟩
theorem Zck (s : ByteArray) (n : Nat) (r : ByteArray) (w : World) (hs : s.size ≤ 1000) (hn : n ≤ 1000) (hr : Zet s n = r) :
  Calls Tryz.prog 49 #[.string s, .int .i64 (n : Int)] w fun e w' => e = .returned (.string r) ∧ w' = w := by
 rw [← hr]
 exact Zqt s n w hs hn
def Zgx (P : Int → Nat → Prop) : Prop := P 0 0 ∧ P 1 1 ∧ P 2 2 ∧ P 3 3 ∧ P 4 4 ∧ P 5 5 ∧ P 6 6 ∧ P 7 7 ∧ P 8 8 ∧ P 9 9 ∧ P 10 10 ∧ P 11 11 ∧ P 12 12 ∧ P 13 13 ∧ P 14 14 ∧ P 15 15 ∧ P 16 16 ∧ P 17 17 ∧ P 18 18 ∧ P 19 19 ∧ P 20 20 ∧ P 21 21 ∧ P 22 22 ∧ P 23 23 ∧ P 24 24 ∧ P 25 25 ∧ P 26 26 ∧ P 27 27 ∧ P 28 28 ∧ P 29 29 ∧ P 30 30 ∧ P 31 31 ∧ P 32 32 ∧ P 33 33 ∧ P 34 34 ∧ P 35 35 ∧ P 36 36 ∧ P 37 37 ∧ P 38 38 ∧ P 39 39 ∧ P 40 40 ∧ P 41 41 ∧ P 42 42 ∧ P 43 43 ∧ P 44 44 ∧ P 45 45
theorem Zxr (k : Nat) (h : k < 46) : k = 0 ∨ k = 1 ∨ k = 2 ∨ k = 3 ∨ k = 4 ∨ k = 5 ∨ k = 6 ∨ k = 7 ∨ k = 8 ∨ k = 9 ∨ k = 10 ∨ k = 11 ∨ k = 12 ∨ k = 13 ∨ k = 14 ∨ k = 15 ∨ k = 16 ∨ k = 17 ∨ k = 18 ∨ k = 19 ∨ k = 20 ∨ k = 21 ∨ k = 22 ∨ k = 23 ∨ k = 24 ∨ k = 25 ∨ k = 26 ∨ k = 27 ∨ k = 28 ∨ k = 29 ∨ k = 30 ∨ k = 31 ∨ k = 32 ∨ k = 33 ∨ k = 34 ∨ k = 35 ∨ k = 36 ∨ k = 37 ∨ k = 38 ∨ k = 39 ∨ k = 40 ∨ k = 41 ∨ k = 42 ∨ k = 43 ∨ k = 44 ∨ k = 45 := by omega
theorem Zs3 {P : Int → Nat → Prop} (h : Zgx P) : ∀ k : Nat, k < 46 → P (k : Int) k := by
 obtain ⟨h0, h1, h2, h3, h4, h5, h6, h7, h8, h9, h10, h11, h12, h13, h14, h15, h16, h17, h18, h19, h20, h21, h22, h23, h24, h25, h26, h27, h28, h29, h30, h31, h32, h33, h34, h35, h36, h37, h38, h39, h40, h41, h42, h43, h44, h45⟩ := h
 intro k hk
 rcases Zxr k hk with rfl | rfl | rfl | rfl | rfl | rfl | rfl | rfl | rfl | rfl | rfl | rfl | rfl | rfl | rfl | rfl | rfl | rfl | rfl | rfl | rfl | rfl | rfl | rfl | rfl | rfl | rfl | rfl | rfl | rfl | rfl | rfl | rfl | rfl | rfl | rfl | rfl | rfl | rfl | rfl | rfl | rfl | rfl | rfl | rfl | rfl <;> assumption
def OpR (w : World) (n : Int) (k : Nat) : Prop := Calls Tryz.prog 32 #[.int .i64 n] w fun e w' => e = .returned (.int .i64 (kix k : Nat)) ∧ w' = w
theorem Zvm (w : World) : Zgx (OpR w) := by
 unfold Zgx
 refine ⟨?_, ?_, ?_, ?_, ?_, ?_, ?_, ?_, ?_, ?_, ?_, ?_, ?_, ?_, ?_, ?_, ?_, ?_, ?_, ?_, ?_, ?_, ?_, ?_, ?_, ?_, ?_, ?_, ?_, ?_, ?_, ?_, ?_, ?_, ?_, ?_, ?_, ?_, ?_, ?_, ?_, ?_, ?_, ?_, ?_, ?_⟩ <;> (unfold OpR; go_enter Tryz.func32, Tryz.ntmps32; go_wp2; go_ret; exact ⟨by kernel_rfl, rfl⟩)
theorem Zcb (w : World) : ∀ k : Nat, k < 46 → Calls Tryz.prog 32 #[.int .i64 (k : Int)] w fun e w' => e = .returned (.int .i64 (kix k : Nat)) ∧ w' = w := Zs3 (P := OpR w) (Zvm w)
theorem Zqu (a : Int) (w : World) : Calls Tryz.prog 67 #[.int .i64 0, .int .i64 a] w fun e w' => e = .returned (.bool (Xo 0 a)) ∧ w' = w := by
 go_enter Tryz.func67, Tryz.ntmps67
 go_wp2
 go_ret
 exact ⟨rfl, rfl⟩
theorem Zqv (a : Int) (w : World) : Calls Tryz.prog 67 #[.int .i64 1, .int .i64 a] w fun e w' => e = .returned (.bool (Xo 1 a)) ∧ w' = w := by
 go_enter Tryz.func67, Tryz.ntmps67
 go_wp2
 go_ret
 exact ⟨rfl, rfl⟩
theorem Zqw (a : Int) (w : World) : Calls Tryz.prog 67 #[.int .i64 2, .int .i64 a] w fun e w' => e = .returned (.bool (Xo 2 a)) ∧ w' = w := by
 have HM : Hid (Xo 2 a = (decide (0 ≤ a) && decide (a < Zaz 2))) := rfl
 by_cases h : 0 ≤ a
 ·have HV : Hid (Xo 2 a = decide (a < Zaz 2)) := by unfold Hid; rw [HM.out]; simp [h]
  go_enter Tryz.func67, Tryz.ntmps67
  go_wp2
  go_ret
  exact ⟨by rw [HV.out]; rfl, rfl⟩
 ·have HV : Hid (Xo 2 a = false) := by unfold Hid; rw [HM.out]; simp [h]
  go_enter Tryz.func67, Tryz.ntmps67
  go_wp2
  go_ret
  exact ⟨by rw [HV.out]; rfl, rfl⟩
theorem Zqx (a : Int) (w : World) : Calls Tryz.prog 67 #[.int .i64 3, .int .i64 a] w fun e w' => e = .returned (.bool (Xo 3 a)) ∧ w' = w := by
 have HM : Hid (Xo 3 a = (decide (0 ≤ a) && decide (a < Zaz 3))) := rfl
 by_cases h : 0 ≤ a
 ·have HV : Hid (Xo 3 a = decide (a < Zaz 3)) := by unfold Hid; rw [HM.out]; simp [h]
  go_enter Tryz.func67, Tryz.ntmps67
  go_wp2
  go_ret
  exact ⟨by rw [HV.out]; rfl, rfl⟩
 ·have HV : Hid (Xo 3 a = false) := by unfold Hid; rw [HM.out]; simp [h]
  go_enter Tryz.func67, Tryz.ntmps67
  go_wp2
  go_ret
  exact ⟨by rw [HV.out]; rfl, rfl⟩
theorem Zqy (a : Int) (w : World) : Calls Tryz.prog 67 #[.int .i64 4, .int .i64 a] w fun e w' => e = .returned (.bool (Xo 4 a)) ∧ w' = w := by
 have HM : Hid (Xo 4 a = (decide (0 ≤ a) && decide (a < Zaz 4))) := rfl
 by_cases h : 0 ≤ a
 ·have HV : Hid (Xo 4 a = decide (a < Zaz 4)) := by unfold Hid; rw [HM.out]; simp [h]
  go_enter Tryz.func67, Tryz.ntmps67
  go_wp2
  go_ret
  exact ⟨by rw [HV.out]; rfl, rfl⟩
 ·have HV : Hid (Xo 4 a = false) := by unfold Hid; rw [HM.out]; simp [h]
  go_enter Tryz.func67, Tryz.ntmps67
  go_wp2
  go_ret
  exact ⟨by rw [HV.out]; rfl, rfl⟩
theorem Zqz (a : Int) (w : World) : Calls Tryz.prog 67 #[.int .i64 5, .int .i64 a] w fun e w' => e = .returned (.bool (Xo 5 a)) ∧ w' = w := by
 have HM : Hid (Xo 5 a = (decide (0 ≤ a) && decide (a < Zaz 5))) := rfl
 by_cases h : 0 ≤ a
 ·have HV : Hid (Xo 5 a = decide (a < Zaz 5)) := by unfold Hid; rw [HM.out]; simp [h]
  go_enter Tryz.func67, Tryz.ntmps67
  go_wp2
  go_ret
  exact ⟨by rw [HV.out]; rfl, rfl⟩
 ·have HV : Hid (Xo 5 a = false) := by unfold Hid; rw [HM.out]; simp [h]
  go_enter Tryz.func67, Tryz.ntmps67
  go_wp2
  go_ret
  exact ⟨by rw [HV.out]; rfl, rfl⟩
theorem Zq0 (a : Int) (w : World) : Calls Tryz.prog 67 #[.int .i64 6, .int .i64 a] w fun e w' => e = .returned (.bool (Xo 6 a)) ∧ w' = w := by
 have HM : Hid (Xo 6 a = (decide (0 ≤ a) && decide (a < Zaz 6))) := rfl
 by_cases h : 0 ≤ a
 ·have HV : Hid (Xo 6 a = decide (a < Zaz 6)) := by unfold Hid; rw [HM.out]; simp [h]
  go_enter Tryz.func67, Tryz.ntmps67
  go_wp2
  go_ret
  exact ⟨by rw [HV.out]; rfl, rfl⟩
 ·have HV : Hid (Xo 6 a = false) := by unfold Hid; rw [HM.out]; simp [h]
  go_enter Tryz.func67, Tryz.ntmps67
  go_wp2
  go_ret
  exact ⟨by rw [HV.out]; rfl, rfl⟩
theorem Ztr (a : Int) (w : World) : ∀ k : Nat, k ≤ 6 → Calls Tryz.prog 67 #[.int .i64 (k : Int), .int .i64 a] w fun e w' => e = .returned (.bool (Xo k a)) ∧ w' = w
 | 0, _ => Zqu a w
 | 1, _ => Zqv a w
 | 2, _ => Zqw a w
 | 3, _ => Zqx a w
 | 4, _ => Zqy a w
 | 5, _ => Zqz a w
 | 6, _ => Zq0 a w
 | k + 7, h => absurd h (by omega)
theorem Zc6 : (Tryz.prog.info? 89).map (·.size) = some 4 := by kernel_rfl
abbrev shC (k : Nat) : Array Value := (Zj.getD k Sh.none).cells.toArray
def Zvn (w : World) (n : Int) (k : Nat) : Prop := Calls Tryz.prog 33 #[.int .i64 n] w fun e w' => e = .returned (.tuple #[.agg (shC k), .bool true]) ∧ Kept nF w w'
def Zq1 (x : Nat → Int) (w : World) (n : Int) (k : Nat) : Prop := Hid (((w.alloc (.cells (shC k) 89)).alloc (.cells (shC k) 89)).heap[w.heap.size]? = some (.cells (shC k) 89 (0, 0))) → Hid (Kept nF w ((w.alloc (.cells (shC k) 89)).alloc (.cells (shC k) 89))) →
 (∀ s wx, s.size ≤ 1000 → Zet s k = (Zj.getD k Sh.none).nm → Calls Tryz.prog 49 #[.string s, .int .i64 n] wx fun e w' => e = .returned (.string (Zj.getD k Sh.none).nm) ∧ w' = wx) →
 (∀ wx, Calls Tryz.prog 32 #[.int .i64 n] wx fun e w' => e = .returned (.int .i64 (x k)) ∧ w' = wx) → Zvn w n k
theorem Zvo (w : World) : Zgx (Zq1 (fun k => (kix k : Nat)) w) := by
 unfold Zgx
 refine ⟨?_, ?_, ?_, ?_, ?_, ?_, ?_, ?_, ?_, ?_, ?_, ?_, ?_, ?_, ?_, ?_, ?_, ?_, ?_, ?_, ?_, ?_, ?_, ?_, ?_, ?_, ?_, ?_, ?_, ?_, ?_, ?_, ?_, ?_, ?_, ?_, ?_, ?_, ?_, ?_, ?_, ?_, ?_, ?_, ?_, ?_⟩ <;> (
  unfold Zq1
  intro HX HK HW HO
  unfold Zvn
  go_enter Tryz.func33, Tryz.ntmps33
  go_wp2_with fail
  refine (HW _ _ (by decide +kernel) (by kernel_rfl)).mono ?_
  rintro e w1 ⟨rfl, rfl⟩
  go_wp2_with fail
  refine (HO _).mono ?_
  rintro e w2 ⟨rfl, rfl⟩
  go_wp2
  refine bodyPost_ret (v := .tuple #[.agg (shC _), .bool true]) ?_ rfl ⟨rfl, HK.out⟩
  exact Zh (by rfl) _ _ ⟨w.heap.size, 0, none⟩ _ _ (by rfl) (by rfl) (run_loadVar_row _ w.heap.size 89 89 _ (0, 0) _ HX.out Tryz.underlying89 rfl Zc6))
theorem Zts (w : World) : ∀ k : Nat, k < 46 → Calls Tryz.prog 33 #[.int .i64 (k : Int)] w fun e w' => e = .returned (.tuple #[.agg (Zj.getD k Sh.none).cells.toArray, .bool true]) ∧ Kept nF w w' := fun k hk =>
 Zs3 (P := Zq1 (fun k => (kix k : Nat)) w) (Zvo w) k hk (Za (heap_alloc2_old w _ _)) (Za (((Kept.refl _ w).alloc _).alloc _)) (fun s wx hs hr => Zck s k _ wx hs (by omega) hr) (fun wx => Zcb wx k hk)
theorem Ztt (n : Int) (w : World) (h : ¬ (0 ≤ n ∧ n < 46)) (hn0 : -9223372036854775808 ≤ n) (hn1 : n < 9223372036854775808) : Calls Tryz.prog 33 #[.int .i64 n] w fun e w' => e = .returned (.tuple #[.agg Sh.none.cells.toArray, .bool false]) ∧ Kept nF w w' := by
 have HX := Za (heap_alloc_new w (.cells Sh.none.cells.toArray 89))
 have HK := Za ((Kept.refl nF w).alloc (.cells Sh.none.cells.toArray 89))
 have hd : (decide (n < 0) || decide ((46 : Int) ≤ n)) = true := by
  rw [Bool.or_eq_true, decide_eq_true_iff, decide_eq_true_iff]
  omega
 clear h
 go_enter Tryz.func33, Tryz.ntmps33
 go_wp2
 all_goals
  refine bodyPost_ret (v := .tuple #[.agg Sh.none.cells.toArray, .bool false]) ?_ rfl ⟨rfl, HK.out⟩
  exact Zh (by rfl) _ _ ⟨w.heap.size, 0, none⟩ _ _ (by rfl) (by rfl) (run_loadVar_row _ w.heap.size 89 89 _ (0, 0) _ HX.out Tryz.underlying89 rfl Zc6)
theorem Zn8 (n : Int) (w : World) (hn0 : -9223372036854775808 ≤ n) (hn1 : n < 9223372036854775808) :
  Calls Tryz.prog 33 #[.int .i64 n] w fun e w' => e = .returned (.tuple #[.agg (Yd Zj n).cells.toArray, .bool (Xb Zj n)]) ∧ Kept nF w w' := by
 by_cases h : 0 ≤ n ∧ n < 46
 ·obtain ⟨k, rfl⟩ : ∃ k : Nat, n = k := ⟨n.toNat, by omega⟩
  have hk : k < 46 := by omega
  rw [(Zcd (L := Zj) hk).1, (Zcd (L := Zj) hk).2]
  exact Zts w k hk
 ·rw [show Yd Zj n = Sh.none from if_neg h, show Xb Zj n = false from decide_eq_false h]
  exact Ztt n w h hn0 hn1
def Zvp : ByteArray := ⟨#[110, 111, 112, 32, 104, 97, 108, 116, 32, 97, 98, 111, 114, 116, 32, 110, 117, 109, 32, 112, 111, 112, 32, 99, 111, 112, 121, 32, 115, 119, 97, 112, 32, 103, 101, 116, 32, 115, 101, 116, 32, 108, 111, 97, 100, 32, 115, 116, 111, 114, 101, 32, 108, 111, 97, 100, 56, 32, 115, 116, 111, 114, 101, 56, 32, 115, 105, 122, 101, 32, 106, 117, 109, 112, 32, 122, 101, 114, 111, 32, 110, 111, 116, 122, 101, 114, 111, 32, 99, 97, 108, 108, 32, 114, 101, 116, 32, 115, 121, 115, 32, 97, 100, 100, 32, 115, 117, 98, 32, 109, 117, 108, 32, 100, 105, 118, 32, 114, 101, 109, 32, 97, 110, 100, 32, 111, 114, 32, 120, 111, 114, 32, 115, 104, 108, 32, 115, 104, 114, 32, 117, 115, 104, 114, 32, 101, 113, 32, 108, 116, 32, 117, 108, 116, 32, 110, 101, 103, 32, 110, 111, 116, 32, 102, 97, 100, 100, 32, 102, 115, 117, 98, 32, 102, 109, 117, 108, 32, 102, 100, 105, 118, 32, 102, 101, 113, 32, 102, 108, 116, 32, 102, 110, 101, 103, 32, 102, 114, 111, 111, 116, 32, 116, 111, 102, 32, 116, 111, 105, 32]⟩
def Zvq : ByteArray := ⟨#[111, 112, 101, 110, 32, 114, 101, 97, 100, 32, 119, 114, 105, 116, 101, 32, 108, 105, 115, 116, 32, 99, 108, 111, 115, 101, 32]⟩
theorem Zq2 (n : Int) (w : World) (h : ¬ (0 ≤ n ∧ n < 5)) (hn0 : -9223372036854775808 ≤ n) (hn1 : n < 9223372036854775808) : Calls Tryz.prog 50 #[.int .i64 n] w fun e w' => e = .returned (.tuple #[.agg Sh.none.cells.toArray, .bool false]) ∧ Kept nF w w' := by
 have HX := Za (heap_alloc_new w (.cells Sh.none.cells.toArray 89))
 have HK := Za ((Kept.refl nF w).alloc (.cells Sh.none.cells.toArray 89))
 have hd : (decide (n < 0) || decide ((5 : Int) ≤ n)) = true := by
  rw [Bool.or_eq_true, decide_eq_true_iff, decide_eq_true_iff]
  omega
 clear h
 go_enter Tryz.func50, Tryz.ntmps50
 go_wp2
 all_goals
  refine bodyPost_ret (v := .tuple #[.agg Sh.none.cells.toArray, .bool false]) ?_ rfl ⟨rfl, HK.out⟩
  exact Zh (by rfl) _ _ ⟨w.heap.size, 0, none⟩ _ _ (by rfl) (by rfl) (run_loadVar_row _ w.heap.size 89 89 _ (0, 0) _ HX.out Tryz.underlying89 rfl Zc6)
theorem Zvr (w : World) : Calls Tryz.prog 50 #[.int .i64 0] w fun e w' => e = .returned (.tuple #[.agg (Zk.getD 0 Sh.none).cells.toArray, .bool true]) ∧ Kept nF w w' := by
 have hX := heap_alloc2_old w (.cells (Zk.getD 0 Sh.none).cells.toArray 89) (.cells (Zk.getD 0 Sh.none).cells.toArray 89)
 have hK := ((Kept.refl nF w).alloc (.cells (Zk.getD 0 Sh.none).cells.toArray 89)).alloc (.cells (Zk.getD 0 Sh.none).cells.toArray 89)
 have HX := Za hX
 have HK := Za hK
 clear hX hK
 go_enter Tryz.func50, Tryz.ntmps50
 go_wp2_with fail
 refine (Zck _ 0 (Zk.getD 0 Sh.none).nm _ (by decide +kernel) (by decide) (by kernel_rfl)).mono ?_
 rintro e w1 ⟨rfl, rfl⟩
 rw [show (Zk.getD 0 Sh.none).nm = _ from rfl]
 go_wp2
 refine bodyPost_ret (v := .tuple #[.agg (Zk.getD 0 Sh.none).cells.toArray, .bool true]) ?_ rfl ⟨rfl, HK.out⟩
 exact Zh (by rfl) _ _ ⟨w.heap.size, 0, none⟩ _ _ (by rfl) (by rfl) (run_loadVar_row _ w.heap.size 89 89 _ (0, 0) _ HX.out Tryz.underlying89 rfl Zc6)
theorem Zvs (w : World) : Calls Tryz.prog 50 #[.int .i64 1] w fun e w' => e = .returned (.tuple #[.agg (Zk.getD 1 Sh.none).cells.toArray, .bool true]) ∧ Kept nF w w' := by
 have hX := heap_alloc2_old w (.cells (Zk.getD 1 Sh.none).cells.toArray 89) (.cells (Zk.getD 1 Sh.none).cells.toArray 89)
 have hK := ((Kept.refl nF w).alloc (.cells (Zk.getD 1 Sh.none).cells.toArray 89)).alloc (.cells (Zk.getD 1 Sh.none).cells.toArray 89)
 have HX := Za hX
 have HK := Za hK
 clear hX hK
 go_enter Tryz.func50, Tryz.ntmps50
 go_wp2_with fail
 refine (Zck _ 1 (Zk.getD 1 Sh.none).nm _ (by decide +kernel) (by decide) (by kernel_rfl)).mono ?_
 rintro e w1 ⟨rfl, rfl⟩
 rw [show (Zk.getD 1 Sh.none).nm = _ from rfl]
 go_wp2
 refine bodyPost_ret (v := .tuple #[.agg (Zk.getD 1 Sh.none).cells.toArray, .bool true]) ?_ rfl ⟨rfl, HK.out⟩
 exact Zh (by rfl) _ _ ⟨w.heap.size, 0, none⟩ _ _ (by rfl) (by rfl) (run_loadVar_row _ w.heap.size 89 89 _ (0, 0) _ HX.out Tryz.underlying89 rfl Zc6)
theorem Zvt (w : World) : Calls Tryz.prog 50 #[.int .i64 2] w fun e w' => e = .returned (.tuple #[.agg (Zk.getD 2 Sh.none).cells.toArray, .bool true]) ∧ Kept nF w w' := by
 have hX := heap_alloc2_old w (.cells (Zk.getD 2 Sh.none).cells.toArray 89) (.cells (Zk.getD 2 Sh.none).cells.toArray 89)
 have hK := ((Kept.refl nF w).alloc (.cells (Zk.getD 2 Sh.none).cells.toArray 89)).alloc (.cells (Zk.getD 2 Sh.none).cells.toArray 89)
 have HX := Za hX
 have HK := Za hK
 clear hX hK
 go_enter Tryz.func50, Tryz.ntmps50
 go_wp2_with fail
 refine (Zck _ 2 (Zk.getD 2 Sh.none).nm _ (by decide +kernel) (by decide) (by kernel_rfl)).mono ?_
 rintro e w1 ⟨rfl, rfl⟩
 rw [show (Zk.getD 2 Sh.none).nm = _ from rfl]
 go_wp2
 refine bodyPost_ret (v := .tuple #[.agg (Zk.getD 2 Sh.none).cells.toArray, .bool true]) ?_ rfl ⟨rfl, HK.out⟩
 exact Zh (by rfl) _ _ ⟨w.heap.size, 0, none⟩ _ _ (by rfl) (by rfl) (run_loadVar_row _ w.heap.size 89 89 _ (0, 0) _ HX.out Tryz.underlying89 rfl Zc6)
theorem Zvu (w : World) : Calls Tryz.prog 50 #[.int .i64 3] w fun e w' => e = .returned (.tuple #[.agg (Zk.getD 3 Sh.none).cells.toArray, .bool true]) ∧ Kept nF w w' := by
 have hX := heap_alloc2_old w (.cells (Zk.getD 3 Sh.none).cells.toArray 89) (.cells (Zk.getD 3 Sh.none).cells.toArray 89)
 have hK := ((Kept.refl nF w).alloc (.cells (Zk.getD 3 Sh.none).cells.toArray 89)).alloc (.cells (Zk.getD 3 Sh.none).cells.toArray 89)
 have HX := Za hX
 have HK := Za hK
 clear hX hK
 go_enter Tryz.func50, Tryz.ntmps50
 go_wp2_with fail
 refine (Zck _ 3 (Zk.getD 3 Sh.none).nm _ (by decide +kernel) (by decide) (by kernel_rfl)).mono ?_
 rintro e w1 ⟨rfl, rfl⟩
 rw [show (Zk.getD 3 Sh.none).nm = _ from rfl]
 go_wp2
 refine bodyPost_ret (v := .tuple #[.agg (Zk.getD 3 Sh.none).cells.toArray, .bool true]) ?_ rfl ⟨rfl, HK.out⟩
 exact Zh (by rfl) _ _ ⟨w.heap.size, 0, none⟩ _ _ (by rfl) (by rfl) (run_loadVar_row _ w.heap.size 89 89 _ (0, 0) _ HX.out Tryz.underlying89 rfl Zc6)
theorem Zvv (w : World) : Calls Tryz.prog 50 #[.int .i64 4] w fun e w' => e = .returned (.tuple #[.agg (Zk.getD 4 Sh.none).cells.toArray, .bool true]) ∧ Kept nF w w' := by
 have hX := heap_alloc2_old w (.cells (Zk.getD 4 Sh.none).cells.toArray 89) (.cells (Zk.getD 4 Sh.none).cells.toArray 89)
 have hK := ((Kept.refl nF w).alloc (.cells (Zk.getD 4 Sh.none).cells.toArray 89)).alloc (.cells (Zk.getD 4 Sh.none).cells.toArray 89)
 have HX := Za hX
 have HK := Za hK
 clear hX hK
 go_enter Tryz.func50, Tryz.ntmps50
 go_wp2_with fail
 refine (Zck _ 4 (Zk.getD 4 Sh.none).nm _ (by decide +kernel) (by decide) (by kernel_rfl)).mono ?_
 rintro e w1 ⟨rfl, rfl⟩
 rw [show (Zk.getD 4 Sh.none).nm = _ from rfl]
 go_wp2
 refine bodyPost_ret (v := .tuple #[.agg (Zk.getD 4 Sh.none).cells.toArray, .bool true]) ?_ rfl ⟨rfl, HK.out⟩
 exact Zh (by rfl) _ _ ⟨w.heap.size, 0, none⟩ _ _ (by rfl) (by rfl) (run_loadVar_row _ w.heap.size 89 89 _ (0, 0) _ HX.out Tryz.underlying89 rfl Zc6)
theorem Zq3 (w : World) : ∀ k : Nat, k < 5 → Calls Tryz.prog 50 #[.int .i64 (k : Int)] w fun e w' => e = .returned (.tuple #[.agg (Zk.getD k Sh.none).cells.toArray, .bool true]) ∧ Kept nF w w'
 | 0, _ => Zvr w
 | 1, _ => Zvs w
 | 2, _ => Zvt w
 | 3, _ => Zvu w
 | 4, _ => Zvv w
 | k + 5, h => absurd h (by omega)
theorem Zn9 (n : Int) (w : World) (hn0 : -9223372036854775808 ≤ n) (hn1 : n < 9223372036854775808) :
  Calls Tryz.prog 50 #[.int .i64 n] w fun e w' => e = .returned (.tuple #[.agg (Yd Zk n).cells.toArray, .bool (Xb Zk n)]) ∧ Kept nF w w' := by
 by_cases h : 0 ≤ n ∧ n < 5
 ·obtain ⟨k, rfl⟩ : ∃ k : Nat, n = k := ⟨n.toNat, by omega⟩
  have hk : k < 5 := by omega
  rw [(Zcd (L := Zk) hk).1, (Zcd (L := Zk) hk).2]
  exact Zq3 w k hk
 ·rw [show Yd Zk n = Sh.none from if_neg h, show Xb Zk n = false from decide_eq_false h]
  exact Zq2 n w h hn0 hn1
theorem Zlh (s : ByteArray) (w : World) :
  Calls Tryz.prog 117 #[.string s] w fun e w' => e = .returned (Zai Zk s) ∧ Kept nF w w' := by
 go_enter Tryz.func117, Tryz.ntmps117
 go_wp2_with fail
 refine (Zmp _).mono ?_
 rintro e w1 ⟨rfl, hk1⟩
 have HK1 := Za hk1
 clear hk1
 obtain ⟨hO, hX, hK⟩ := Zap w1 z63 (Yi Zk).toArray 214
 go_upto_region 2 with (first | refine Zbg rfl (some 4) rfl (.pointer (some ⟨w1.heap.size, 0, none⟩)) (w1.alloc (.cells z63 214)) (by kernel_rfl) ?_ | refine wpList_store_row rfl 214 _ _ rfl w1.heap.size (Yi Zk).toArray rfl rfl 214 _ hO Zhe (by kernel_rfl) Zm6 ?_)
 clear hO
 generalize (w1.alloc (.cells z63 214)).setRow w1.heap.size (Yi Zk).toArray = w2 at *
 have HK2 := Za (HK1.out.trans hK)
 have HR := Za (Zi8 Zk w1.heap.size 214 s w2 hX (by decide))
 clear hK HK1
 go_wp2_with fail
 refine HR.out.mono ?_
 rintro e w3 ⟨rfl, hk3⟩
 have HK3 := Za (HK2.out.trans hk3)
 clear hk3 HR HK2 hX
 by_cases h : Za2 Zk s < Zk.length
 ·have HV := Za (show Zai Zk s = _ from if_pos h)
  rw [HV.out]
  generalize Za2 Zk s = k at *
  clear h
  go_wp2
  go_ret2
  exact ⟨congrArg Ending.returned HV.out.symm, HK3.out⟩
 ·have HV := Za (show Zai Zk s = _ from if_neg h)
  rw [HV.out]
  clear h
  go_wp2
  go_ret2
  exact ⟨congrArg Ending.returned HV.out.symm, HK3.out⟩
theorem Zmx (s : ByteArray) (w : World) : Calls Tryz.prog 65 #[.string s] w fun e w' => e = .returned (Zai Zj s) ∧ w' = w := by
 have HW : Hid (∀ k, k < 46 → Zet Zvp k = (Zj.getD k Sh.none).nm) := by
  intro k hk
  revert k
  decide +kernel
 go_enter Tryz.func65, Tryz.ntmps65
 go_wp2
 go_loopw [4] (fun i wr => ∃ k : Nat, k ≤ 46 ∧ i = .int .i64 (k : Int) ∧ (∀ j, j < k → (Zj.getD j Sh.none).nm ≠ s) ∧ wr = w) (fun i _ => 46 - (intOf i).toNat)
 case atStart => exact ⟨0, by omega, rfl, fun j hj => absurd hj (by omega), rfl⟩
 case round =>
  obtain ⟨k, hk, rfl, hno, rfl⟩ := hrel
  by_cases hlt : k < 46
  ·have hki : (k : Int) < 46 := by omega
   have HAT : Hid ((Zj.getD k Sh.none).nm = s → Zai Zj s = .tuple #[.int .i64 (k : Nat), .bool true]) := fun h => Zgm (show k < Zj.length from hlt) hno h
   have HNO := Za hno
   have HX : Hid (∀ v, (Zj.getD k Sh.none).nm = v → (Zj.getD k Sh.none).nm = v) := fun v h => h
   clear hno
   go_wp2_with fail
   refine (Zck _ k (Zj.getD k Sh.none).nm _ (by decide +kernel) (by omega) (HW.out k hlt)).mono ?_
   rintro e w1 ⟨rfl, rfl⟩
   obtain ⟨x, hx⟩ : ∃ x, (Zj.getD k Sh.none).nm = x := ⟨_, rfl⟩
   rw [hx]
   rw [hx] at HAT
   have HXX := Za hx
   clear hx HX HW
   go_wp2
   ·have HQ := Za (HAT.out (Zei (by assumption)))
    go_ret2
    exact ⟨congrArg Ending.returned HQ.out.symm, rfl⟩
   ·rename_i hne
    refine ⟨⟨k + 1, by omega, by go_num, fun j hj => ?_, trivial⟩, by simp [intOf]; omega⟩
    by_cases e : j = k
    ·subst e
     rw [HXX.out]
     exact Zj6 hne
    ·exact HNO.out j (by omega)
  ·have hki : (46 : Int) ≤ (k : Int) := by omega
   have HV := Za (Ze0 (L := Zj) (s := s) (fun j hj => hno j (by have : Zj.length = 46 := rfl; omega)))
   clear hno hk hlt
   go_wp2
   go_ret2
   exact ⟨congrArg Ending.returned HV.out.symm, rfl⟩
theorem Zli (s : ByteArray) (w : World) : Calls Tryz.prog 66 #[.string s] w fun e w' => e = .returned (Zai Zk s) ∧ w' = w := by
 have HW : Hid (∀ k, k < 5 → Zet Zvq k = (Zk.getD k Sh.none).nm) := by
  intro k hk
  revert k
  decide +kernel
 go_enter Tryz.func66, Tryz.ntmps66
 go_wp2
 go_loopw [4] (fun i wr => ∃ k : Nat, k ≤ 5 ∧ i = .int .i64 (k : Int) ∧ (∀ j, j < k → (Zk.getD j Sh.none).nm ≠ s) ∧ wr = w) (fun i _ => 5 - (intOf i).toNat)
 case atStart => exact ⟨0, by omega, rfl, fun j hj => absurd hj (by omega), rfl⟩
 case round =>
  obtain ⟨k, hk, rfl, hno, rfl⟩ := hrel
  by_cases hlt : k < 5
  ·have hki : (k : Int) < 5 := by omega
   have HAT : Hid ((Zk.getD k Sh.none).nm = s → Zai Zk s = .tuple #[.int .i64 (k : Nat), .bool true]) := fun h => Zgm (show k < Zk.length from hlt) hno h
   have HNO := Za hno
   have HX : Hid (∀ v, (Zk.getD k Sh.none).nm = v → (Zk.getD k Sh.none).nm = v) := fun v h => h
   clear hno
   go_wp2_with fail
   refine (Zck _ k (Zk.getD k Sh.none).nm _ (by decide +kernel) (by omega) (HW.out k hlt)).mono ?_
   rintro e w1 ⟨rfl, rfl⟩
   obtain ⟨x, hx⟩ : ∃ x, (Zk.getD k Sh.none).nm = x := ⟨_, rfl⟩
   rw [hx]
   rw [hx] at HAT
   have HXX := Za hx
   clear hx HX HW
   go_wp2
   ·have HQ := Za (HAT.out (Zei (by assumption)))
    go_ret2
    exact ⟨congrArg Ending.returned HQ.out.symm, rfl⟩
   ·rename_i hne
    refine ⟨⟨k + 1, by omega, by go_num, fun j hj => ?_, trivial⟩, by simp [intOf]; omega⟩
    by_cases e : j = k
    ·subst e
     rw [HXX.out]
     exact Zj6 hne
    ·exact HNO.out j (by omega)
  ·have hki : (5 : Int) ≤ (k : Int) := by omega
   have HV := Za (Ze0 (L := Zk) (s := s) (fun j hj => hno j (by have : Zk.length = 5 := rfl; omega)))
   clear hno hk hlt
   go_wp2
   go_ret2
   exact ⟨congrArg Ending.returned HV.out.symm, rfl⟩
end Go.Proofs.YtgoabnehdmdikaaGreatDoor

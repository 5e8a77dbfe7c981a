import Derived.Test.YtgoabnehdmdikaaGreatDoorTPa6
import Derived.Test.YtgoabnehdmdikaaGreatDoorTPa10
import Derived.Test.YtgoabnehdmdikaaGreatDoorTPa2
import Derived.Deep.Strs
import Derived.Laws.IdiomStrings
import Derived.Test.YtgoabnehdmdikaaGreatDoorTPa3
namespace Go.Proofs.YtgoabnehdmdikaaGreatDoor
open Go.RowKit
set_option linter.unusedVariables false
set_option linter.unusedSimpArgs false
set_option maxRecDepth 100000
structure Fnc where
 nm : ByteArray
 a : Int
 l : Int
 r : Int
 ls : List (ByteArray × Int)
 code : List IN
structure Wt where
 ln : Int
 fn : Nat
 pl : Nat
 nm : ByteArray
 jump : Bool
structure Rdr where
 mem : Int
 sized : Bool
 data : List Int
 fs : List Fnc
 ws : List Wt
def lkA : List (ByteArray × Int) → ByteArray → Option Int
 | [], _ => none
 | (k, v) :: L, s => if s = k then some v else lkA L s
theorem lkA_snoc : ∀ (L : List (ByteArray × Int)) (k : ByteArray) (v : Int) (s : ByteArray), lkA (L ++ [(k, v)]) s = match lkA L s with | some x => some x | none => if s = k then some v else none
 | [], k, v, s => rfl
 | (a, b) :: L, k, v, s => by
  rw [List.cons_append, lkA, lkA]
  split
  ·rfl
  ·exact lkA_snoc L k v s
def nmL : Nat → List Fnc → List (ByteArray × Int)
 | _, [] => []
 | k, f :: fs => (f.nm, (k : Int)) :: nmL (k + 1) fs
theorem nmL_snoc : ∀ (k : Nat) (fs : List Fnc) (f : Fnc), nmL k (fs ++ [f]) = nmL k fs ++ [(f.nm, ((k + fs.length : Nat) : Int))]
 | k, [], f => by simp [nmL]
 | k, g :: fs, f => by
  rw [List.cons_append, nmL, nmL, List.cons_append, nmL_snoc (k + 1) fs f]
  congr 4
  simp
  omega
theorem nmL_same : ∀ (k : Nat) (fs gs : List Fnc), fs.map Fnc.nm = gs.map Fnc.nm → nmL k fs = nmL k gs
 | k, [], [], _ => rfl
 | k, [], g :: gs, h => by simp at h
 | k, f :: fs, [], h => by simp at h
 | k, f :: fs, g :: gs, h => by
  simp only [List.map_cons, List.cons.injEq] at h
  rw [nmL, nmL, h.1, nmL_same (k + 1) fs gs h.2]
def ixN (L : List Sh) (s : ByteArray) : Option Nat := if nameIx L s < L.length then some (nameIx L s) else none
theorem named_ix (L : List Sh) (s : ByteArray) : namedV L s = match ixN L s with | some n => .tuple #[.int .i64 (n : Int), .bool true] | none => .tuple #[.int .i64 0, .bool false] := by
 unfold namedV ixN
 by_cases h : nameIx L s < L.length
 ·rw [if_pos h, if_pos h]
 ·rw [if_neg h, if_neg h]
theorem ixN_lt {L : List Sh} {s : ByteArray} {n : Nat} (h : ixN L s = some n) : n < L.length := by
 unfold ixN at h
 by_cases h1 : nameIx L s < L.length
 ·rw [if_pos h1] at h
  cases h
  exact h1
 ·rw [if_neg h1] at h
  cases h
def operF (n : Nat) (kd : Int) : List Pf → Option (Int × Int × ByteArray)
 | [] => if kd = 0 then some ((n : Int), 0, ⟨#[]⟩) else none
 | q :: r => if kd = 0 then none else if r = [] then (if q.k = 1 then some ((n : Int), q.n, ⟨#[]⟩) else if q.k = 0 then (if kd = 3 ∨ kd = 4 then some ((n : Int), 0, q.s) else if kd = 5 then (match ixN sysL q.s with | some c => some ((n : Int), (c : Int), ⟨#[]⟩) | none => none) else none) else none) else none
def instrF : List Pf → Option (Int × Int × ByteArray)
 | [] => none
 | p :: r => if p.k = 0 then (match ixN insL p.s with | some n => operF n (rowS insL (n : Int)).o r | none => none) else none
def labF (f : Fnc) : List ByteArray → Option Fnc
 | [] => some f
 | s :: ss => if (lkA f.ls s).isSome = true then none else labF ⟨f.nm, f.a, f.l, f.r, f.ls ++ [(s, (f.code.length : Int))], f.code⟩ ss
def addW (k : Nat) (f : Fnc) (n op : Int) (w : ByteArray) : List Wt := if w = ⟨#[]⟩ then [] else [⟨n, k, f.code.length, w, !decide (op = 17)⟩]
def addC (f : Fnc) (op a : Int) : Fnc := ⟨f.nm, f.a, f.l, f.r, f.ls, f.code ++ [⟨op, a⟩]⟩
inductive RR where
 | bad (e : Int)
 | good (R : Rdr)
def codeF (R : Rdr) (gs : List Fnc) (f : Fnc) (n : Int) (ls : List ByteArray) (l : List Pf) : RR :=
 if l ≠ [] ∧ instrF l = none then .bad 141
 else if l.any Pf.f = true then .bad 143
 else match labF f ls with
  | none => .bad 142
  | some g => if l = [] then .good ⟨R.mem, R.sized, R.data, gs ++ [g], R.ws⟩ else match instrF l with
   | none => .bad 141
   | some (op, a, w) => .good ⟨R.mem, R.sized, R.data, gs ++ [addC g op a], R.ws ++ addW gs.length g n op w⟩
def codeP (R : Rdr) (n : Int) (ls : List ByteArray) (l : List Pf) : RR := match R.fs.getLast? with | none => .bad 141 | some f => codeF R R.fs.dropLast f n ls l
theorem codeP_nil (R : Rdr) (n : Int) (ls : List ByteArray) (l : List Pf) (h : R.fs = []) : codeP R n ls l = .bad 141 := by unfold codeP; rw [h]; rfl
theorem codeP_snoc (R : Rdr) (n : Int) (ls : List ByteArray) (l : List Pf) (gs : List Fnc) (f : Fnc) (h : R.fs = gs ++ [f]) : codeP R n ls l = codeF R gs f n ls l := by unfold codeP; rw [h]; simp
def memP (R : Rdr) (l : List Pf) : RR := if R.sized = true ∨ R.fs ≠ [] ∨ l.map Pf.k ≠ [1] then .bad 141 else if l.any Pf.f = true then .bad 143 else .good ⟨(l.map Pf.n).headD 0, true, R.data, R.fs, R.ws⟩
def bytI (s : ByteArray) : List Int := s.data.toList.map (fun b => (b.toNat : Int))
def datP (R : Rdr) (l : List Pf) : RR := if R.fs ≠ [] ∨ l.map Pf.k ≠ [2] then .bad 141 else .good ⟨R.mem, R.sized, R.data ++ bytI ((l.map Pf.s).headD ⟨#[]⟩), R.fs, R.ws⟩
def funP (R : Rdr) : List Pf → RR
 | [p, q1, q2, q3] => if [p.k, q1.k, q2.k, q3.k] ≠ [0, 1, 1, 1] then .bad 141 else if (p.f || (q1.f || (q2.f || q3.f))) = true then .bad 143 else if (lkA (nmL 0 R.fs) p.s).isSome = true then .bad 142 else .good ⟨R.mem, R.sized, R.data, R.fs ++ [⟨p.s, q1.n, q2.n, q3.n, [], []⟩], R.ws⟩
 | _ => .bad 141
abbrev memB : ByteArray := ⟨#[109, 101, 109, 111, 114, 121]⟩
abbrev datB : ByteArray := ⟨#[100, 97, 116, 97]⟩
abbrev funB : ByteArray := ⟨#[102, 117, 110, 99]⟩
def headP (R : Rdr) (n : Int) : List Pf → RR
 | [] => .good R
 | p :: l => if p.k ≠ 0 then .bad 141 else if p.s = memB then memP R l else if p.s = datB then datP R l else if p.s = funB then funP R l else codeP R n [] (p :: l)
def lineP (R : Rdr) (n : Int) (o : Option (List Pf)) : RR := match o with
 | none => .bad 141
 | some ps => if (labP ps).1 = [] then headP R n (labP ps).2 else codeP R n (labP ps).1 (labP ps).2
def linesP : Rdr → Int → List (List UInt8) → (Int × Int) ⊕ Rdr
 | R, _, [] => .inr R
 | R, n, l :: ls => match lineP R n (cutV l) with | .bad e => .inl (n, e) | .good R' => linesP R' (n + 1) ls
def wordF (s : ByteArray) : Nat → Nat → Nat → Nat → ByteArray
 | 0, _, _, _ => ⟨#[]⟩
 | f + 1, n, fr, i => if i < s.size then (if (s.data[i]?.getD 0).toNat ≠ 32 then wordF s f n fr (i + 1) else if n = 0 then s.extract fr i else wordF s f (n - 1) (i + 1) (i + 1)) else ⟨#[]⟩
def wordP (s : ByteArray) (n : Nat) : ByteArray := wordF s (s.size + 1) n 0 0
theorem wordF_succ (s : ByteArray) (f n fr i : Nat) : wordF s (f + 1) n fr i = if i < s.size then (if (s.data[i]?.getD 0).toNat ≠ 32 then wordF s f n fr (i + 1) else if n = 0 then s.extract fr i else wordF s f (n - 1) (i + 1) (i + 1)) else ⟨#[]⟩ := rfl
set_option maxHeartbeats 4000000 in
theorem word_any (s : ByteArray) (n : Nat) (w : World) (hs : s.size ≤ 1000) (hn : n ≤ 1000) :
  Calls Tryz.prog 49 #[.string s, .int .i64 (n : Int)] w fun e w' => e = .returned (.string (wordP s n)) ∧ w' = w := by
 have HP : Hid (wordP s n = wordF s (s.size + 1) n 0 0) := rfl
 generalize wordP s n = r at *
 go_enter Tryz.func49, Tryz.ntmps49
 go_wp2
 go_loopw [1, 5, 6] (fun nv fv iv wr => ∃ (m fr i : Nat), m ≤ 1000 ∧ fr ≤ i ∧ i ≤ s.size ∧ nv = .int .i64 (m : Int) ∧ fv = .int .i64 (fr : Int) ∧ iv = .int .i64 (i : Int) ∧ r = wordF s (s.size + 1 - i) m fr i ∧ wr = w) (fun _ _ iv _ => s.size - (intOf iv).toNat)
 case atStart => exact ⟨n, 0, 0, hn, by omega, by omega, rfl, rfl, rfl, HP.out, rfl⟩
 case round =>
  obtain ⟨m, fr, i, hm, hfi, hi, rfl, rfl, rfl, hr, rfl⟩ := hrel
  clear HP
  by_cases hlt : i < s.size
  ·have hiI : (i : Int) < (s.size : Int) := by omega
   rw [show s.size + 1 - i = (s.size - i) + 1 by omega, wordF_succ, if_pos hlt] at hr
   have hd : (s.data[i]?.getD 0).toNat = (s[i]'hlt).toNat := by
    have : i < s.data.size := hlt
    simp [Array.getElem?_eq_getElem this]
    rfl
   rw [hd] at hr
   by_cases hb : (s[i]'hlt).toNat = 32
   ·rw [if_neg (by omega)] at hr
    have hbI : (((s[i]'hlt).toNat : Int) != 32) = false := by simp [hb]
    by_cases h0 : m = 0
    ·rw [if_pos h0] at hr
     have HR := hid_of hr
     subst h0
     clear hr hd
     go_wp2
     go_ret
     exact ⟨by rw [HR.out]; rfl, rfl⟩
    ·rw [if_neg h0] at hr
     have h0I : ((m : Int) == 0) = false := by simp [h0]
     have HR := hid_of hr
     clear hr hd
     go_wp2
     go_roundw
     case rel => exact ⟨m - 1, i + 1, i + 1, by omega, by omega, by omega, by congr 1; go_num, by go_num, by go_num, by rw [show s.size + 1 - (i + 1) = s.size - i by omega]; exact HR.out, trivial⟩
     case measure => simp [intOf]; omega
   ·rw [if_pos hb] at hr
    have hbI : (((s[i]'hlt).toNat : Int) != 32) = true := by simp; omega
    have HR := hid_of hr
    clear hr hd
    go_wp2
    go_roundw
    case rel => exact ⟨m, fr, i + 1, hm, by omega, by omega, rfl, rfl, by go_num, by rw [show s.size + 1 - (i + 1) = s.size - i by omega]; exact HR.out, trivial⟩
    case measure => simp [intOf]; omega
  ·have hiI : (s.size : Int) ≤ (i : Int) := by omega
   rw [show s.size + 1 - i = (s.size - i) + 1 by omega, wordF_succ, if_neg hlt] at hr
   have HR := hid_of hr
   clear hr
   go_wp2
   go_ret
   exact ⟨by rw [HR.out]; rfl, rfl⟩
theorem word_is (s : ByteArray) (n : Nat) (r : ByteArray) (w : World) (hs : s.size ≤ 1000) (hn : n ≤ 1000) (hr : wordP s n = r) :
  Calls Tryz.prog 49 #[.string s, .int .i64 (n : Int)] w fun e w' => e = .returned (.string r) ∧ w' = w := by
 rw [← hr]
 exact word_any s n w hs hn
theorem operand_ref (w : World) : ∀ k : Nat, k < 46 → Calls Tryz.prog 32 #[.int .i64 (k : Int)] w fun e w' => e = .returned (.int .i64 (kix k : Nat)) ∧ w' = w
 | 0, _ => by
  show Calls Tryz.prog 32 #[.int .i64 0] w fun e w' => e = .returned (.int .i64 (kix 0 : Nat)) ∧ w' = w
  go_enter Tryz.func32, Tryz.ntmps32
  go_wp2
  go_ret
  exact ⟨by kernel_rfl, rfl⟩
 | 1, _ => by
  show Calls Tryz.prog 32 #[.int .i64 1] w fun e w' => e = .returned (.int .i64 (kix 1 : Nat)) ∧ w' = w
  go_enter Tryz.func32, Tryz.ntmps32
  go_wp2
  go_ret
  exact ⟨by kernel_rfl, rfl⟩
 | 2, _ => by
  show Calls Tryz.prog 32 #[.int .i64 2] w fun e w' => e = .returned (.int .i64 (kix 2 : Nat)) ∧ w' = w
  go_enter Tryz.func32, Tryz.ntmps32
  go_wp2
  go_ret
  exact ⟨by kernel_rfl, rfl⟩
 | 3, _ => by
  show Calls Tryz.prog 32 #[.int .i64 3] w fun e w' => e = .returned (.int .i64 (kix 3 : Nat)) ∧ w' = w
  go_enter Tryz.func32, Tryz.ntmps32
  go_wp2
  go_ret
  exact ⟨by kernel_rfl, rfl⟩
 | 4, _ => by
  show Calls Tryz.prog 32 #[.int .i64 4] w fun e w' => e = .returned (.int .i64 (kix 4 : Nat)) ∧ w' = w
  go_enter Tryz.func32, Tryz.ntmps32
  go_wp2
  go_ret
  exact ⟨by kernel_rfl, rfl⟩
 | 5, _ => by
  show Calls Tryz.prog 32 #[.int .i64 5] w fun e w' => e = .returned (.int .i64 (kix 5 : Nat)) ∧ w' = w
  go_enter Tryz.func32, Tryz.ntmps32
  go_wp2
  go_ret
  exact ⟨by kernel_rfl, rfl⟩
 | 6, _ => by
  show Calls Tryz.prog 32 #[.int .i64 6] w fun e w' => e = .returned (.int .i64 (kix 6 : Nat)) ∧ w' = w
  go_enter Tryz.func32, Tryz.ntmps32
  go_wp2
  go_ret
  exact ⟨by kernel_rfl, rfl⟩
 | 7, _ => by
  show Calls Tryz.prog 32 #[.int .i64 7] w fun e w' => e = .returned (.int .i64 (kix 7 : Nat)) ∧ w' = w
  go_enter Tryz.func32, Tryz.ntmps32
  go_wp2
  go_ret
  exact ⟨by kernel_rfl, rfl⟩
 | 8, _ => by
  show Calls Tryz.prog 32 #[.int .i64 8] w fun e w' => e = .returned (.int .i64 (kix 8 : Nat)) ∧ w' = w
  go_enter Tryz.func32, Tryz.ntmps32
  go_wp2
  go_ret
  exact ⟨by kernel_rfl, rfl⟩
 | 9, _ => by
  show Calls Tryz.prog 32 #[.int .i64 9] w fun e w' => e = .returned (.int .i64 (kix 9 : Nat)) ∧ w' = w
  go_enter Tryz.func32, Tryz.ntmps32
  go_wp2
  go_ret
  exact ⟨by kernel_rfl, rfl⟩
 | 10, _ => by
  show Calls Tryz.prog 32 #[.int .i64 10] w fun e w' => e = .returned (.int .i64 (kix 10 : Nat)) ∧ w' = w
  go_enter Tryz.func32, Tryz.ntmps32
  go_wp2
  go_ret
  exact ⟨by kernel_rfl, rfl⟩
 | 11, _ => by
  show Calls Tryz.prog 32 #[.int .i64 11] w fun e w' => e = .returned (.int .i64 (kix 11 : Nat)) ∧ w' = w
  go_enter Tryz.func32, Tryz.ntmps32
  go_wp2
  go_ret
  exact ⟨by kernel_rfl, rfl⟩
 | 12, _ => by
  show Calls Tryz.prog 32 #[.int .i64 12] w fun e w' => e = .returned (.int .i64 (kix 12 : Nat)) ∧ w' = w
  go_enter Tryz.func32, Tryz.ntmps32
  go_wp2
  go_ret
  exact ⟨by kernel_rfl, rfl⟩
 | 13, _ => by
  show Calls Tryz.prog 32 #[.int .i64 13] w fun e w' => e = .returned (.int .i64 (kix 13 : Nat)) ∧ w' = w
  go_enter Tryz.func32, Tryz.ntmps32
  go_wp2
  go_ret
  exact ⟨by kernel_rfl, rfl⟩
 | 14, _ => by
  show Calls Tryz.prog 32 #[.int .i64 14] w fun e w' => e = .returned (.int .i64 (kix 14 : Nat)) ∧ w' = w
  go_enter Tryz.func32, Tryz.ntmps32
  go_wp2
  go_ret
  exact ⟨by kernel_rfl, rfl⟩
 | 15, _ => by
  show Calls Tryz.prog 32 #[.int .i64 15] w fun e w' => e = .returned (.int .i64 (kix 15 : Nat)) ∧ w' = w
  go_enter Tryz.func32, Tryz.ntmps32
  go_wp2
  go_ret
  exact ⟨by kernel_rfl, rfl⟩
 | 16, _ => by
  show Calls Tryz.prog 32 #[.int .i64 16] w fun e w' => e = .returned (.int .i64 (kix 16 : Nat)) ∧ w' = w
  go_enter Tryz.func32, Tryz.ntmps32
  go_wp2
  go_ret
  exact ⟨by kernel_rfl, rfl⟩
 | 17, _ => by
  show Calls Tryz.prog 32 #[.int .i64 17] w fun e w' => e = .returned (.int .i64 (kix 17 : Nat)) ∧ w' = w
  go_enter Tryz.func32, Tryz.ntmps32
  go_wp2
  go_ret
  exact ⟨by kernel_rfl, rfl⟩
 | 18, _ => by
  show Calls Tryz.prog 32 #[.int .i64 18] w fun e w' => e = .returned (.int .i64 (kix 18 : Nat)) ∧ w' = w
  go_enter Tryz.func32, Tryz.ntmps32
  go_wp2
  go_ret
  exact ⟨by kernel_rfl, rfl⟩
 | 19, _ => by
  show Calls Tryz.prog 32 #[.int .i64 19] w fun e w' => e = .returned (.int .i64 (kix 19 : Nat)) ∧ w' = w
  go_enter Tryz.func32, Tryz.ntmps32
  go_wp2
  go_ret
  exact ⟨by kernel_rfl, rfl⟩
 | 20, _ => by
  show Calls Tryz.prog 32 #[.int .i64 20] w fun e w' => e = .returned (.int .i64 (kix 20 : Nat)) ∧ w' = w
  go_enter Tryz.func32, Tryz.ntmps32
  go_wp2
  go_ret
  exact ⟨by kernel_rfl, rfl⟩
 | 21, _ => by
  show Calls Tryz.prog 32 #[.int .i64 21] w fun e w' => e = .returned (.int .i64 (kix 21 : Nat)) ∧ w' = w
  go_enter Tryz.func32, Tryz.ntmps32
  go_wp2
  go_ret
  exact ⟨by kernel_rfl, rfl⟩
 | 22, _ => by
  show Calls Tryz.prog 32 #[.int .i64 22] w fun e w' => e = .returned (.int .i64 (kix 22 : Nat)) ∧ w' = w
  go_enter Tryz.func32, Tryz.ntmps32
  go_wp2
  go_ret
  exact ⟨by kernel_rfl, rfl⟩
 | 23, _ => by
  show Calls Tryz.prog 32 #[.int .i64 23] w fun e w' => e = .returned (.int .i64 (kix 23 : Nat)) ∧ w' = w
  go_enter Tryz.func32, Tryz.ntmps32
  go_wp2
  go_ret
  exact ⟨by kernel_rfl, rfl⟩
 | 24, _ => by
  show Calls Tryz.prog 32 #[.int .i64 24] w fun e w' => e = .returned (.int .i64 (kix 24 : Nat)) ∧ w' = w
  go_enter Tryz.func32, Tryz.ntmps32
  go_wp2
  go_ret
  exact ⟨by kernel_rfl, rfl⟩
 | 25, _ => by
  show Calls Tryz.prog 32 #[.int .i64 25] w fun e w' => e = .returned (.int .i64 (kix 25 : Nat)) ∧ w' = w
  go_enter Tryz.func32, Tryz.ntmps32
  go_wp2
  go_ret
  exact ⟨by kernel_rfl, rfl⟩
 | 26, _ => by
  show Calls Tryz.prog 32 #[.int .i64 26] w fun e w' => e = .returned (.int .i64 (kix 26 : Nat)) ∧ w' = w
  go_enter Tryz.func32, Tryz.ntmps32
  go_wp2
  go_ret
  exact ⟨by kernel_rfl, rfl⟩
 | 27, _ => by
  show Calls Tryz.prog 32 #[.int .i64 27] w fun e w' => e = .returned (.int .i64 (kix 27 : Nat)) ∧ w' = w
  go_enter Tryz.func32, Tryz.ntmps32
  go_wp2
  go_ret
  exact ⟨by kernel_rfl, rfl⟩
 | 28, _ => by
  show Calls Tryz.prog 32 #[.int .i64 28] w fun e w' => e = .returned (.int .i64 (kix 28 : Nat)) ∧ w' = w
  go_enter Tryz.func32, Tryz.ntmps32
  go_wp2
  go_ret
  exact ⟨by kernel_rfl, rfl⟩
 | 29, _ => by
  show Calls Tryz.prog 32 #[.int .i64 29] w fun e w' => e = .returned (.int .i64 (kix 29 : Nat)) ∧ w' = w
  go_enter Tryz.func32, Tryz.ntmps32
  go_wp2
  go_ret
  exact ⟨by kernel_rfl, rfl⟩
 | 30, _ => by
  show Calls Tryz.prog 32 #[.int .i64 30] w fun e w' => e = .returned (.int .i64 (kix 30 : Nat)) ∧ w' = w
  go_enter Tryz.func32, Tryz.ntmps32
  go_wp2
  go_ret
  exact ⟨by kernel_rfl, rfl⟩
 | 31, _ => by
  show Calls Tryz.prog 32 #[.int .i64 31] w fun e w' => e = .returned (.int .i64 (kix 31 : Nat)) ∧ w' = w
  go_enter Tryz.func32, Tryz.ntmps32
  go_wp2
  go_ret
  exact ⟨by kernel_rfl, rfl⟩
 | 32, _ => by
  show Calls Tryz.prog 32 #[.int .i64 32] w fun e w' => e = .returned (.int .i64 (kix 32 : Nat)) ∧ w' = w
  go_enter Tryz.func32, Tryz.ntmps32
  go_wp2
  go_ret
  exact ⟨by kernel_rfl, rfl⟩
 | 33, _ => by
  show Calls Tryz.prog 32 #[.int .i64 33] w fun e w' => e = .returned (.int .i64 (kix 33 : Nat)) ∧ w' = w
  go_enter Tryz.func32, Tryz.ntmps32
  go_wp2
  go_ret
  exact ⟨by kernel_rfl, rfl⟩
 | 34, _ => by
  show Calls Tryz.prog 32 #[.int .i64 34] w fun e w' => e = .returned (.int .i64 (kix 34 : Nat)) ∧ w' = w
  go_enter Tryz.func32, Tryz.ntmps32
  go_wp2
  go_ret
  exact ⟨by kernel_rfl, rfl⟩
 | 35, _ => by
  show Calls Tryz.prog 32 #[.int .i64 35] w fun e w' => e = .returned (.int .i64 (kix 35 : Nat)) ∧ w' = w
  go_enter Tryz.func32, Tryz.ntmps32
  go_wp2
  go_ret
  exact ⟨by kernel_rfl, rfl⟩
 | 36, _ => by
  show Calls Tryz.prog 32 #[.int .i64 36] w fun e w' => e = .returned (.int .i64 (kix 36 : Nat)) ∧ w' = w
  go_enter Tryz.func32, Tryz.ntmps32
  go_wp2
  go_ret
  exact ⟨by kernel_rfl, rfl⟩
 | 37, _ => by
  show Calls Tryz.prog 32 #[.int .i64 37] w fun e w' => e = .returned (.int .i64 (kix 37 : Nat)) ∧ w' = w
  go_enter Tryz.func32, Tryz.ntmps32
  go_wp2
  go_ret
  exact ⟨by kernel_rfl, rfl⟩
 | 38, _ => by
  show Calls Tryz.prog 32 #[.int .i64 38] w fun e w' => e = .returned (.int .i64 (kix 38 : Nat)) ∧ w' = w
  go_enter Tryz.func32, Tryz.ntmps32
  go_wp2
  go_ret
  exact ⟨by kernel_rfl, rfl⟩
 | 39, _ => by
  show Calls Tryz.prog 32 #[.int .i64 39] w fun e w' => e = .returned (.int .i64 (kix 39 : Nat)) ∧ w' = w
  go_enter Tryz.func32, Tryz.ntmps32
  go_wp2
  go_ret
  exact ⟨by kernel_rfl, rfl⟩
 | 40, _ => by
  show Calls Tryz.prog 32 #[.int .i64 40] w fun e w' => e = .returned (.int .i64 (kix 40 : Nat)) ∧ w' = w
  go_enter Tryz.func32, Tryz.ntmps32
  go_wp2
  go_ret
  exact ⟨by kernel_rfl, rfl⟩
 | 41, _ => by
  show Calls Tryz.prog 32 #[.int .i64 41] w fun e w' => e = .returned (.int .i64 (kix 41 : Nat)) ∧ w' = w
  go_enter Tryz.func32, Tryz.ntmps32
  go_wp2
  go_ret
  exact ⟨by kernel_rfl, rfl⟩
 | 42, _ => by
  show Calls Tryz.prog 32 #[.int .i64 42] w fun e w' => e = .returned (.int .i64 (kix 42 : Nat)) ∧ w' = w
  go_enter Tryz.func32, Tryz.ntmps32
  go_wp2
  go_ret
  exact ⟨by kernel_rfl, rfl⟩
 | 43, _ => by
  show Calls Tryz.prog 32 #[.int .i64 43] w fun e w' => e = .returned (.int .i64 (kix 43 : Nat)) ∧ w' = w
  go_enter Tryz.func32, Tryz.ntmps32
  go_wp2
  go_ret
  exact ⟨by kernel_rfl, rfl⟩
 | 44, _ => by
  show Calls Tryz.prog 32 #[.int .i64 44] w fun e w' => e = .returned (.int .i64 (kix 44 : Nat)) ∧ w' = w
  go_enter Tryz.func32, Tryz.ntmps32
  go_wp2
  go_ret
  exact ⟨by kernel_rfl, rfl⟩
 | 45, _ => by
  show Calls Tryz.prog 32 #[.int .i64 45] w fun e w' => e = .returned (.int .i64 (kix 45 : Nat)) ∧ w' = w
  go_enter Tryz.func32, Tryz.ntmps32
  go_wp2
  go_ret
  exact ⟨by kernel_rfl, rfl⟩
 | k + 46, h => absurd h (by omega)
theorem may_ref0 (a : Int) (w : World) : Calls Tryz.prog 67 #[.int .i64 0, .int .i64 a] w fun e w' => e = .returned (.bool (mayP 0 a)) ∧ w' = w := by
 go_enter Tryz.func67, Tryz.ntmps67
 go_wp2
 go_ret
 exact ⟨rfl, rfl⟩
theorem may_ref1 (a : Int) (w : World) : Calls Tryz.prog 67 #[.int .i64 1, .int .i64 a] w fun e w' => e = .returned (.bool (mayP 1 a)) ∧ w' = w := by
 go_enter Tryz.func67, Tryz.ntmps67
 go_wp2
 go_ret
 exact ⟨rfl, rfl⟩
theorem may_ref2 (a : Int) (w : World) : Calls Tryz.prog 67 #[.int .i64 2, .int .i64 a] w fun e w' => e = .returned (.bool (mayP 2 a)) ∧ w' = w := by
 have HM : Hid (mayP 2 a = (decide (0 ≤ a) && decide (a < endOf 2))) := rfl
 by_cases h : 0 ≤ a
 ·have HV : Hid (mayP 2 a = decide (a < endOf 2)) := by unfold Hid; rw [HM.out]; simp [h]
  go_enter Tryz.func67, Tryz.ntmps67
  go_wp2
  go_ret
  exact ⟨by rw [HV.out]; rfl, rfl⟩
 ·have HV : Hid (mayP 2 a = false) := by unfold Hid; rw [HM.out]; simp [h]
  go_enter Tryz.func67, Tryz.ntmps67
  go_wp2
  go_ret
  exact ⟨by rw [HV.out]; rfl, rfl⟩
theorem may_ref3 (a : Int) (w : World) : Calls Tryz.prog 67 #[.int .i64 3, .int .i64 a] w fun e w' => e = .returned (.bool (mayP 3 a)) ∧ w' = w := by
 have HM : Hid (mayP 3 a = (decide (0 ≤ a) && decide (a < endOf 3))) := rfl
 by_cases h : 0 ≤ a
 ·have HV : Hid (mayP 3 a = decide (a < endOf 3)) := by unfold Hid; rw [HM.out]; simp [h]
  go_enter Tryz.func67, Tryz.ntmps67
  go_wp2
  go_ret
  exact ⟨by rw [HV.out]; rfl, rfl⟩
 ·have HV : Hid (mayP 3 a = false) := by unfold Hid; rw [HM.out]; simp [h]
  go_enter Tryz.func67, Tryz.ntmps67
  go_wp2
  go_ret
  exact ⟨by rw [HV.out]; rfl, rfl⟩
theorem may_ref4 (a : Int) (w : World) : Calls Tryz.prog 67 #[.int .i64 4, .int .i64 a] w fun e w' => e = .returned (.bool (mayP 4 a)) ∧ w' = w := by
 have HM : Hid (mayP 4 a = (decide (0 ≤ a) && decide (a < endOf 4))) := rfl
 by_cases h : 0 ≤ a
 ·have HV : Hid (mayP 4 a = decide (a < endOf 4)) := by unfold Hid; rw [HM.out]; simp [h]
  go_enter Tryz.func67, Tryz.ntmps67
  go_wp2
  go_ret
  exact ⟨by rw [HV.out]; rfl, rfl⟩
 ·have HV : Hid (mayP 4 a = false) := by unfold Hid; rw [HM.out]; simp [h]
  go_enter Tryz.func67, Tryz.ntmps67
  go_wp2
  go_ret
  exact ⟨by rw [HV.out]; rfl, rfl⟩
theorem may_ref5 (a : Int) (w : World) : Calls Tryz.prog 67 #[.int .i64 5, .int .i64 a] w fun e w' => e = .returned (.bool (mayP 5 a)) ∧ w' = w := by
 have HM : Hid (mayP 5 a = (decide (0 ≤ a) && decide (a < endOf 5))) := rfl
 by_cases h : 0 ≤ a
 ·have HV : Hid (mayP 5 a = decide (a < endOf 5)) := by unfold Hid; rw [HM.out]; simp [h]
  go_enter Tryz.func67, Tryz.ntmps67
  go_wp2
  go_ret
  exact ⟨by rw [HV.out]; rfl, rfl⟩
 ·have HV : Hid (mayP 5 a = false) := by unfold Hid; rw [HM.out]; simp [h]
  go_enter Tryz.func67, Tryz.ntmps67
  go_wp2
  go_ret
  exact ⟨by rw [HV.out]; rfl, rfl⟩
theorem may_ref6 (a : Int) (w : World) : Calls Tryz.prog 67 #[.int .i64 6, .int .i64 a] w fun e w' => e = .returned (.bool (mayP 6 a)) ∧ w' = w := by
 have HM : Hid (mayP 6 a = (decide (0 ≤ a) && decide (a < endOf 6))) := rfl
 by_cases h : 0 ≤ a
 ·have HV : Hid (mayP 6 a = decide (a < endOf 6)) := by unfold Hid; rw [HM.out]; simp [h]
  go_enter Tryz.func67, Tryz.ntmps67
  go_wp2
  go_ret
  exact ⟨by rw [HV.out]; rfl, rfl⟩
 ·have HV : Hid (mayP 6 a = false) := by unfold Hid; rw [HM.out]; simp [h]
  go_enter Tryz.func67, Tryz.ntmps67
  go_wp2
  go_ret
  exact ⟨by rw [HV.out]; rfl, rfl⟩
theorem may_ref (a : Int) (w : World) : ∀ k : Nat, k ≤ 6 → Calls Tryz.prog 67 #[.int .i64 (k : Int), .int .i64 a] w fun e w' => e = .returned (.bool (mayP k a)) ∧ w' = w
 | 0, _ => may_ref0 a w
 | 1, _ => may_ref1 a w
 | 2, _ => may_ref2 a w
 | 3, _ => may_ref3 a w
 | 4, _ => may_ref4 a w
 | 5, _ => may_ref5 a w
 | 6, _ => may_ref6 a w
 | k + 7, h => absurd h (by omega)
end Go.Proofs.YtgoabnehdmdikaaGreatDoor

import Derived.Test.YtgoabnehdmdikaaGreatDoorTLg1
import Derived.Laws.Tables
import Derived.Laws.Rows
import Derived.Laws.ResultCell
import Derived.Deep.MidRow
import Derived.Deep.DeepCutAuto
import Derived.Deep.CutBlock
import Derived.Laws.BytesString
import Derived.Deep.AppendSrc
import Derived.Deep.Strs
import Derived.OpenShut
import Derived.ChangeOld
import Derived.Defers
import Derived.Recover
import Derived.Laws.BitsAllLaws
import Derived.Laws.Bits64
import Derived.LaidEqlPtr
import Derived.Deep.RegionLaw
import Derived.Laws.IdiomStrings
set_option linter.unusedVariables false
set_option linter.unusedSimpArgs false
set_option maxRecDepth 100000
set_option maxHeartbeats 64000000
namespace Go.Proofs.YtgoabnehdmdikaaGreatDoor
open Go.RowKit
structure Sh where
 nm : ByteArray
 o : Int
 t : Int
 g : Int
def Sh.cells (s : Sh) : List Value := [.string s.nm, .int .i64 s.o, .int .i64 s.t, .int .i64 s.g]
def Sh.none : Sh := ⟨⟨#[]⟩, 0, 0, 0⟩
def Zj : List Sh := [
 ⟨⟨#[110, 111, 112]⟩, 0, 0, 0⟩,
 ⟨⟨#[104, 97, 108, 116]⟩, 0, 1, 0⟩,
 ⟨⟨#[97, 98, 111, 114, 116]⟩, 0, 1, 0⟩,
 ⟨⟨#[110, 117, 109]⟩, 1, 0, 1⟩,
 ⟨⟨#[112, 111, 112]⟩, 0, 1, 0⟩,
 ⟨⟨#[99, 111, 112, 121]⟩, 6, 0, 1⟩,
 ⟨⟨#[115, 119, 97, 112]⟩, 0, 2, 2⟩,
 ⟨⟨#[103, 101, 116]⟩, 2, 0, 1⟩,
 ⟨⟨#[115, 101, 116]⟩, 2, 1, 0⟩,
 ⟨⟨#[108, 111, 97, 100]⟩, 0, 1, 1⟩,
 ⟨⟨#[115, 116, 111, 114, 101]⟩, 0, 2, 0⟩,
 ⟨⟨#[108, 111, 97, 100, 56]⟩, 0, 1, 1⟩,
 ⟨⟨#[115, 116, 111, 114, 101, 56]⟩, 0, 2, 0⟩,
 ⟨⟨#[115, 105, 122, 101]⟩, 0, 0, 1⟩,
 ⟨⟨#[106, 117, 109, 112]⟩, 3, 0, 0⟩,
 ⟨⟨#[122, 101, 114, 111]⟩, 3, 1, 0⟩,
 ⟨⟨#[110, 111, 116, 122, 101, 114, 111]⟩, 3, 1, 0⟩,
 ⟨⟨#[99, 97, 108, 108]⟩, 4, -1, -1⟩,
 ⟨⟨#[114, 101, 116]⟩, 0, -1, 0⟩,
 ⟨⟨#[115, 121, 115]⟩, 5, -1, 1⟩,
 ⟨⟨#[97, 100, 100]⟩, 0, 2, 1⟩,
 ⟨⟨#[115, 117, 98]⟩, 0, 2, 1⟩,
 ⟨⟨#[109, 117, 108]⟩, 0, 2, 1⟩,
 ⟨⟨#[100, 105, 118]⟩, 0, 2, 1⟩,
 ⟨⟨#[114, 101, 109]⟩, 0, 2, 1⟩,
 ⟨⟨#[97, 110, 100]⟩, 0, 2, 1⟩,
 ⟨⟨#[111, 114]⟩, 0, 2, 1⟩,
 ⟨⟨#[120, 111, 114]⟩, 0, 2, 1⟩,
 ⟨⟨#[115, 104, 108]⟩, 0, 2, 1⟩,
 ⟨⟨#[115, 104, 114]⟩, 0, 2, 1⟩,
 ⟨⟨#[117, 115, 104, 114]⟩, 0, 2, 1⟩,
 ⟨⟨#[101, 113]⟩, 0, 2, 1⟩,
 ⟨⟨#[108, 116]⟩, 0, 2, 1⟩,
 ⟨⟨#[117, 108, 116]⟩, 0, 2, 1⟩,
 ⟨⟨#[110, 101, 103]⟩, 0, 1, 1⟩,
 ⟨⟨#[110, 111, 116]⟩, 0, 1, 1⟩,
 ⟨⟨#[102, 97, 100, 100]⟩, 0, 2, 1⟩,
 ⟨⟨#[102, 115, 117, 98]⟩, 0, 2, 1⟩,
 ⟨⟨#[102, 109, 117, 108]⟩, 0, 2, 1⟩,
 ⟨⟨#[102, 100, 105, 118]⟩, 0, 2, 1⟩,
 ⟨⟨#[102, 101, 113]⟩, 0, 2, 1⟩,
 ⟨⟨#[102, 108, 116]⟩, 0, 2, 1⟩,
 ⟨⟨#[102, 110, 101, 103]⟩, 0, 1, 1⟩,
 ⟨⟨#[102, 114, 111, 111, 116]⟩, 0, 1, 1⟩,
 ⟨⟨#[116, 111, 102]⟩, 0, 1, 1⟩,
 ⟨⟨#[116, 111, 105]⟩, 0, 1, 1⟩]
def Zk : List Sh := [
 ⟨⟨#[111, 112, 101, 110]⟩, 0, 3, 1⟩,
 ⟨⟨#[114, 101, 97, 100]⟩, 0, 3, 1⟩,
 ⟨⟨#[119, 114, 105, 116, 101]⟩, 0, 3, 1⟩,
 ⟨⟨#[108, 105, 115, 116]⟩, 0, 4, 1⟩,
 ⟨⟨#[99, 108, 111, 115, 101]⟩, 0, 1, 1⟩]
def Yi (l : List Sh) : List Value := l.flatMap Sh.cells
def Zg0 (l : List Sh) : List (Nat × Value) := l.zipIdx.map fun (s, i) => (i, .agg s.cells.toArray)
theorem Zl1 : Tryz.prog.built 205 (Zg0 Zj) = some (Yi Zj).toArray := by kernel_rfl
theorem Zg1 : (Tryz.prog.info? 205).map (·.size) = some (Yi Zj).toArray.size := by kernel_rfl
theorem Zm5 : (Yi Zj).toArray.all (·.oneCell') = true := by kernel_rfl
theorem Zm6 : (Yi Zk).toArray.all (·.oneCell') = true := by kernel_rfl
def z57 : Array Value := (Yi (List.replicate 46 Sh.none)).toArray
def z63 : Array Value := (Yi (List.replicate 5 Sh.none)).toArray
theorem Zaq (w : World) (g : Nat) (cs : Array Value) : Kept (fun k => k = g) w (w.setRow g cs) :=
 ⟨rfl, rfl, rfl, by simp [World.setRow], fun k _ hn => setRow_other _ _ _ _ hn⟩
section
variable {ops : Array Oper} {o : Oper} {a : Act} {w : World} {Q : Exit → Act → World → Prop} {rest : List Oper}
theorem Zj4 (hg : o.guard = none) (parts : Array (Nat × Operand)) (ho : o.op = .build 205 parts) (e : (parts.map fun (i, x) => (i, a.eval x)).toList = Zg0 Zj)
  (h : wpList Tryz.prog ops Q rest (a.put o.dst (.agg (Yi Zj).toArray)) w) : wpList Tryz.prog ops Q (o :: rest) a w := by
 refine wpList_build hg 205 _ ho (by rw [e, Zl1]; rfl) ?_
 rw [e, Zl1]
 exact h
theorem Zbg (hg : o.guard = none) (dst : Option Tmp) (hdst : o.dst = dst) (v : Value) (w' : World) (hrun : (execOp a.eval o).run Tryz.prog w = .ok (.value v) w')
  (h : wpList Tryz.prog ops Q rest (a.put dst v) w') : wpList Tryz.prog ops Q (o :: rest) a w := by
 subst hdst
 refine wpList_plain hg fun K hK => ?_
 unfold Oper.wp
 rw [hrun, Oper.upon_value]
 exact hK _ _ h
end
theorem Zap (w : World) (z cs : Array Value) (t : TypeId) : (w.alloc (.cells z t)).heap[w.heap.size]? = some (.cells z t (0, 0)) ∧
  ((w.alloc (.cells z t)).setRow w.heap.size cs).heap[w.heap.size]? = some (.cells cs t (0, 0)) ∧ Kept nF w ((w.alloc (.cells z t)).setRow w.heap.size cs) := by
 have hO := heap_alloc_new w (.cells z t)
 exact ⟨hO, setRow_heap _ w.heap.size _ cs t (0, 0) hO, ((Kept.refl nF w).alloc _).step (Zaq _ w.heap.size _) (fun i hi e => by omega)⟩
theorem Zhr (w : World) : Calls Tryz.prog 122 #[] w fun e w' => e = .returned (.agg (Yi Zj).toArray) ∧ Kept nF w w' := by
 obtain ⟨hO, hX, hK⟩ := Zap w z57 (Yi Zj).toArray 205
 go_enter Tryz.func122, Tryz.ntmps122
 go_wp2_with (first | refine Zbg rfl (some 0) rfl (.pointer (some ⟨w.heap.size, 0, none⟩)) (w.alloc (.cells z57 205)) (by kernel_rfl) ?_ | refine Zj4 rfl _ rfl (by kernel_rfl) ?_ | refine wpList_store_row rfl 205 _ _ rfl w.heap.size (Yi Zj).toArray rfl rfl 205 _ hO Zg1 (by kernel_rfl) Zm5 ?_)
 refine bodyPost_ret (v := .agg (Yi Zj).toArray) ?_ rfl ⟨rfl, hK⟩
 exact results_cell_row (by rfl) _ _ w.heap.size 205 _ (0, 0) _ (by rfl) hX Tryz.underlying205 rfl Zg1
end Go.Proofs.YtgoabnehdmdikaaGreatDoor
namespace Go.Proofs.YtgoabnehdmdikaaGreatDoor
open Go.RowKit
theorem Zh {fn : Func} {p u : Tmp} {ty : TypeId} (h : fn.results = #[.cell p ty, .tmp u]) (tmps : Array Value) (w : World) (a : Addr) (v x : Value)
  (hp : tmps.getD p undef = .pointer (some a)) (hx : tmps.getD u undef = x) (hl : (loadVar ty a).run Tryz.prog w = .ok v w) :
  (results fn tmps).run Tryz.prog w = .ok (.tuple #[v, x]) w := by
 rw [results_cell_tmp h, hp, hx]
 simp [asAddr, Result.andThen, hl]
def Xb (L : List Sh) (n : Int) : Bool := decide (0 ≤ n ∧ n < (L.length : Int))
def Yd (L : List Sh) (n : Int) : Sh := if 0 ≤ n ∧ n < (L.length : Int) then L.getD n.toNat Sh.none else Sh.none
theorem Zg2 (L : List Sh) (n j : Nat) (h : n < L.length) (hj : j < 4) : (Yi L)[n * 4 + j]? = ((L.getD n Sh.none).cells)[j]? := by
 induction L generalizing n with
 | nil => simp at h
 | cons x L ih =>
  have e : Yi (x :: L) = x.cells ++ Yi L := rfl
  cases n with
  | zero =>
   rw [e, List.getElem?_append_left (by simp [Sh.cells]; omega)]
   simp
  | succ n =>
   rw [e, List.getElem?_append_right (by simp [Sh.cells]; omega)]
   have := ih n (by simpa using h)
   simp only [Sh.cells, List.length_cons, List.length_nil, List.getD_cons_succ] at this ⊢
   rw [← this]
   congr 1
   omega
theorem Zj5 (s : Sh) : s.cells.toArray.all (·.oneCell') = true := by
 rw [Array.all_eq_true_iff_forall_mem]
 intro v hv
 simp [Sh.cells] at hv
 rcases hv with rfl | rfl | rfl | rfl <;> rfl
theorem Zcr : (Tryz.prog.info? 186).map (·.size) = some 4 := by kernel_rfl
theorem Zei {a b : ByteArray} (h : (a.toList == b.toList) = true) : a = b := by
 have e : a.data.toList = b.data.toList := by
  have := eq_of_beq h
  rwa [ByteArray.toList_eq, ByteArray.toList_eq] at this
 cases a
 cases b
 exact congrArg _ (Array.toList_inj.1 e)
theorem Zj6 {a b : ByteArray} (h : (a.toList == b.toList) = false) : a ≠ b := fun e => by
 subst e
 simp at h
def Za2 (L : List Sh) (s : ByteArray) : Nat := L.findIdx (fun x => decide (x.nm = s))
def Zai (L : List Sh) (s : ByteArray) : Value := if Za2 L s < L.length then .tuple #[.int .i64 (Za2 L s : Nat), .bool true] else .tuple #[.int .i64 0, .bool false]
theorem Zgm {L : List Sh} {s : ByteArray} {k : Nat} (hk : k < L.length) (h0 : ∀ j, j < k → (L.getD j Sh.none).nm ≠ s) (h1 : (L.getD k Sh.none).nm = s) : Zai L s = .tuple #[.int .i64 (k : Nat), .bool true] := by
 have e : Za2 L s = k := by
  unfold Za2
  rw [List.findIdx_eq hk]
  refine ⟨decide_eq_true ?_, fun j hj => decide_eq_false ?_⟩
  ·rw [← h1]
   simp [List.getD, List.getElem?_eq_getElem hk]
  ·have := h0 j hj
   simpa [List.getD, List.getElem?_eq_getElem (show j < L.length by omega)] using this
 unfold Zai
 rw [e, if_pos hk]
theorem Ze0 {L : List Sh} {s : ByteArray} (h0 : ∀ j, j < L.length → (L.getD j Sh.none).nm ≠ s) : Zai L s = .tuple #[.int .i64 0, .bool false] := by
 have e : Za2 L s = L.length := by
  unfold Za2
  rw [List.findIdx_eq_length]
  intro x hx
  obtain ⟨j, hj, rfl⟩ := List.getElem_of_mem hx
  have := h0 j hj
  exact decide_eq_false (by simpa [List.getD, List.getElem?_eq_getElem hj] using this)
 unfold Zai
 rw [e, if_neg (Nat.lt_irrefl _)]
theorem Zoi {L : List Sh} {w : World} {g t k : Nat} (hg : w.heap[g]? = some (.cells (Yi L).toArray t (0, 0))) (hk : k < L.length) : w.rangeAt g (k * 4) (L.getD k Sh.none).cells := fun j v hv => by
 have hj : j < 4 := by
  have := (List.getElem?_eq_some_iff.1 hv).1
  simpa [Sh.cells] using this
 rw [Zb _ _ _ _ _ _ hg]
 have := Zg2 L k j hk hj
 rw [hv] at this
 simpa using this
theorem Zc {S : Nat → Prop} {w w' : World} {B : Nat} {o : Obj} (h : Kept S w w') (hb : w.heap[B]? = some o) (hs : ¬ S B) : w'.heap[B]? = some o := (h.block B (Array.getElem?_eq_some_iff.1 hb).1 hs).trans hb
theorem Zcd {L : List Sh} {k : Nat} (h : k < L.length) : Yd L (k : Int) = L.getD k Sh.none ∧ Xb L (k : Int) = true := by
 have h' : 0 ≤ (k : Int) ∧ (k : Int) < (L.length : Int) := by omega
 unfold Yd Xb
 rw [if_pos h', decide_eq_true h']
 exact ⟨by simp, rfl⟩
theorem Zoj (nm : ByteArray) (o t g : Int) : (Sh.mk nm o t g).cells.toArray = #[.string nm, .int .i64 o, .int .i64 t, .int .i64 g] := rfl
theorem Za3 : (Tryz.prog.info? 180).map (·.size) = some 3 := by kernel_rfl
abbrev fnV (n : Nat) : Value := .func (.func n) #[] #[]
def Yg (bx : Nat → Nat) : Nat → List Value
 | 0 => [fnV 166, fnV 167, fnV 168]
 | 1 => [fnV 169, fnV 170, fnV 172]
 | k => [.func (.func 174) #[] #[.pointer (some ⟨bx k, 0, none⟩)], fnV 175, fnV 176]
theorem Zbi (bx : Nat → Nat) (k : Nat) : (Yg bx k).length = 3 := by
 unfold Yg; split <;> rfl
theorem Ze1 (bx : Nat → Nat) (k : Nat) : (Yg bx k).toArray.all (·.oneCell') = true := by
 rw [Array.all_eq_true_iff_forall_mem]
 intro v hv
 unfold Yg at hv
 split at hv <;> (simp at hv; rcases hv with rfl | rfl | rfl <;> rfl)
theorem Zc7 (a b c : Value) (ha : a.oneCell' = true) (hb : b.oneCell' = true) (hc : c.oneCell' = true) : #[a, b, c].all (·.oneCell') = true := by
 rw [Array.all_eq_true_iff_forall_mem]
 intro v hv
 simp at hv
 rcases hv with rfl | rfl | rfl <;> assumption
def Zaz : Nat → Int
 | 2 => 64
 | 3 => 4096
 | 4 => 64
 | 5 => 5
 | 6 => 256
 | _ => 0
theorem Zc8 (n : Int) (w : World) : Calls Tryz.prog 147 #[.int .i64 n] w fun e w' => e = .returned (.agg #[.func (.func 174) #[] #[.pointer (some ⟨w.heap.size, 0, none⟩)], fnV 175, fnV 176]) ∧ w'.heap[w.heap.size]? = some (.cells #[.int .i64 n] 3 (0, 0)) ∧ Kept nF w w' := by
 have h1 : (w.alloc (.cells #[.int .i64 n] 3)).heap.size = w.heap.size + 1 := by simp
 obtain ⟨hO, hX, hK⟩ := Zap (w.alloc (.cells #[.int .i64 n] 3)) #[.nilFunc, .nilFunc, .nilFunc] #[.func (.func 174) #[] #[.pointer (some ⟨w.heap.size, 0, none⟩)], fnV 175, fnV 176] 180
 rw [h1] at hO hX hK
 have HB := Za (Zc hK (heap_alloc_new w (.cells #[.int .i64 n] 3)) id)
 have HK : Hid (Kept nF w _) := ((Kept.refl nF w).alloc (.cells #[.int .i64 n] 3)).trans hK
 have HX := Za hX
 clear hX hK h1
 go_enter Tryz.func147, Tryz.ntmps147
 go_wp2_with (refine wpList_store_row rfl 180 _ _ rfl (w.heap.size + 1) #[.func (.func 174) #[] #[.pointer (some ⟨w.heap.size, 0, none⟩)], fnV 175, fnV 176] rfl rfl 180 _ hO Za3 rfl (Zc7 _ _ _ rfl rfl rfl) ?_)
 refine bodyPost_ret (v := .agg #[.func (.func 174) #[] #[.pointer (some ⟨w.heap.size, 0, none⟩)], fnV 175, fnV 176]) ?_ rfl ⟨rfl, HB.out, HK.out⟩
 exact results_cell_row (by rfl) _ _ (w.heap.size + 1) 180 _ (0, 0) _ (by rfl) HX.out Tryz.underlying180 rfl Za3
theorem Zq9 (w : World) : Calls Tryz.prog 145 #[] w fun e w' => e = .returned (.agg #[fnV 166, fnV 167, fnV 168]) ∧ Kept nF w w' := by
 obtain ⟨hO, hX, hK⟩ := Zap w #[.nilFunc, .nilFunc, .nilFunc] #[fnV 166, fnV 167, fnV 168] 180
 have HX := Za hX
 have HK := Za hK
 clear hX hK
 go_enter Tryz.func145, Tryz.ntmps145
 go_wp2_with (refine wpList_store_row rfl 180 _ _ rfl w.heap.size #[fnV 166, fnV 167, fnV 168] rfl rfl 180 _ hO Za3 rfl (Zc7 _ _ _ rfl rfl rfl) ?_)
 refine bodyPost_ret (v := .agg #[fnV 166, fnV 167, fnV 168]) ?_ rfl ⟨rfl, HK.out⟩
 exact results_cell_row (by rfl) _ _ w.heap.size 180 _ (0, 0) _ (by rfl) HX.out Tryz.underlying180 rfl Za3
theorem Zm7 (w : World) : Calls Tryz.prog 146 #[] w fun e w' => e = .returned (.agg #[fnV 169, fnV 170, fnV 172]) ∧ Kept nF w w' := by
 obtain ⟨hO, hX, hK⟩ := Zap w #[.nilFunc, .nilFunc, .nilFunc] #[fnV 169, fnV 170, fnV 172] 180
 have HX := Za hX
 have HK := Za hK
 clear hX hK
 go_enter Tryz.func146, Tryz.ntmps146
 go_wp2_with (refine wpList_store_row rfl 180 _ _ rfl w.heap.size #[fnV 169, fnV 170, fnV 172] rfl rfl 180 _ hO Za3 rfl (Zc7 _ _ _ rfl rfl rfl) ?_)
 refine bodyPost_ret (v := .agg #[fnV 169, fnV 170, fnV 172]) ?_ rfl ⟨rfl, HK.out⟩
 exact results_cell_row (by rfl) _ _ w.heap.size 180 _ (0, 0) _ (by rfl) HX.out Tryz.underlying180 rfl Za3
end Go.Proofs.YtgoabnehdmdikaaGreatDoor
namespace Go.Proofs.YtgoabnehdmdikaaGreatDoor
open Go.RowKit
theorem IsB.shape {w : World} {v : Value} {xs : List Int} (h : IsB w v xs) : ∃ ao c, v = .slice ao xs.length c := by
 rcases h with ⟨rfl, ao, c, rfl⟩ | ⟨g, o, c, rfl, hc⟩
 ·exact ⟨_, _, rfl⟩
 ·exact ⟨_, _, rfl⟩
theorem IsB.kept {w w' : World} {v : Value} {xs : List Int} {S : Nat → Prop} (h : IsB w v xs) (hk : Kept S w w') (hS : ∀ g, v.ownBlock = some g → ¬ S g) : IsB w' v xs := by
 rcases h with ⟨rfl, ao, c, rfl⟩ | ⟨g, o, c, rfl, hc⟩
 ·exact .inl ⟨rfl, _, _, rfl⟩
 ·exact .inr ⟨g, o, c, rfl, fun i hi => hk.cell (hc i hi) (hS g rfl)⟩
def str (xs : List Int) : ByteArray := xs.foldl (fun r n => r.push (UInt8.ofNat n.toNat)) ByteArray.empty
theorem Zok (r : ByteArray) (b : UInt8) : (r.push b).data.toList = r.data.toList ++ [b] := by simp [ByteArray.push]
theorem Zfn (xs : List Int) : ∀ r : ByteArray, (xs.foldl (fun r n => r.push (UInt8.ofNat n.toNat)) r).data.toList = r.data.toList ++ xs.map fun n => UInt8.ofNat n.toNat := by
 induction xs with
 | nil => intro r; simp
 | cons x xs ih => intro r; rw [List.foldl_cons, ih, Zok]; simp
theorem Zbj (xs : List Int) : (str xs).size = xs.length := by
 have : (str xs).size = (str xs).data.toList.length := by simp
 rw [this]
 unfold str
 rw [Zfn]
 have e : (ByteArray.empty.data.toList : List UInt8) = [] := rfl
 simp
theorem Zaf (w : World) (v : Value) (xs : List Int) (h : IsB w v xs) : (convert 23 9 v).run Tryz.prog w = .ok (.string (str xs)) w := by
 rcases h with ⟨rfl, ao, c, rfl⟩ | ⟨g, o, c, rfl, hc⟩
 ·rw [run_convert_bytes_string w 23 9 5 ao 0 c Tryz.underlying23 Tryz.underlying5 Tryz.underlying9]
  cases ao with
  | none => simp [Conv.bytesToString, str]
  | some p => exact run_bytesToString w p 0 c [] (run_loadCells_list w p [] (fun j v h => by cases h))
 ·rw [run_convert_bytes_string w 23 9 5 _ _ c Tryz.underlying23 Tryz.underlying5 Tryz.underlying9]
  refine run_bytesToString w _ _ c xs ?_
  have := run_loadCells_list (P := Tryz.prog) w ⟨g, o, none⟩ (xs.map (Value.int .u8)) (Zc5 rfl (fun i hi => by rw [Addr.add_lit]; exact hc i hi))
  simpa using this
theorem Zt4 (m : Nat) (y : Int) : Mth.be (m + 1) y = Mth.be m (y / 256) ++ [y % 256] := by
 induction m with
 | zero => simp [Mth.be]
 | succ m ih =>
  have e : y / (256 : Int) ^ (m + 1) = y / 256 / (256 : Int) ^ m := by
   rw [Int.ediv_ediv_of_nonneg (by omega), Int.pow_succ, Int.mul_comm]
  rw [Mth.be, ih, Mth.be, e]
  rfl
theorem Zl2 (y : Int) (h0 : 1 ≤ y) (h1 : y < 18446744073709551616) : Mth.sz y = Mth.sz (y / 256) + 1 := by
 have := Mth.sz_cases y
 have := Mth.sz_cases (y / 256)
 omega
theorem Zt5 (y : Int) (h0 : 1 ≤ y) (h1 : y < 18446744073709551616) : Mth.be (Mth.sz y) y = Mth.be (Mth.sz (y / 256)) (y / 256) ++ [y % 256] := by
 rw [Zl2 y h0 h1, Zt4]
theorem Zra (u : Int) (p : Nat) : u / (256 : Int) ^ (p + 1) = u / (256 : Int) ^ p / 256 := by
 rw [Int.pow_succ, Int.ediv_ediv_of_nonneg (Int.le_of_lt (Mth.pow_pos p))]
theorem Zvy (u : Int) (p : Nat) (h0 : 0 ≤ u) : 0 ≤ u / (256 : Int) ^ p ∧ u / (256 : Int) ^ p ≤ u :=
 ⟨Int.ediv_nonneg h0 (Int.le_of_lt (Mth.pow_pos p)), Int.ediv_le_self _ h0⟩
def Out (w wr : World) (v : Value) (y : Int) : Prop :=
 wr.ownsRow w.heap.size 5 1 v (Mth.sz y) ((Mth.be (Mth.sz y) y).map (Value.int .u8)) ∧ Kept nF w wr
theorem Zrb {w wr w' : World} {v v' : Value} {o : Obj} {y : Int} (h0 : 1 ≤ y) (h1 : y < 18446744073709551616) (h : Out w wr v (y / 256))
  (hown' : w'.ownsRow w.heap.size 5 1 v' (Mth.sz (y / 256) + 1) ((Mth.be (Mth.sz (y / 256)) (y / 256)).map (Value.int .u8) ++ [.int .u8 (y % 256)])) (hgrow : (wr.alloc o).grownBy w' v.ownBlock) : Out w w' v' y := by
 refine ⟨?_, (h.2.alloc o).grown hgrow (fun g hg => .inl (h.1.lt g hg).1)⟩
 rw [Zt5 y h0 h1, Zl2 y h0 h1]
 simpa using hown'
def Zan (k n : Int) (xs : List Int) : List Int :=
 if k = 1 then Mth.form n else if k = 2 then Mth.form (Wg n) else if k = 3 then [if (n == 1) = true then 1 else 0]
 else if k = 4 then Mth.form xs.length ++ xs else if k = 5 then Mth.form xs.length ++ xs else xs
theorem Zt6 (W : World) (v : Value) (n base : Nat) (xs : List Value) (ty : TypeId) (c : Nat) (hown : W.ownsRow base 5 1 v n xs) : (Builtin.append_ #[23, 23] ty #[v, .slice none 0 c]).run Tryz.prog W = .ok v W := by
 obtain ⟨i0, hi, hz0, hz1, hz2⟩ := info_parts Tryz.info5
 rcases hown.2 with ⟨rfl, rfl⟩ | ⟨g, cap, cur, rfl, hb, hg, hn, hm, hs, ht⟩
 ·simp [Builtin.append_, run_underlying Tryz.underlying23, sizeOf, typeInfo, hi, Builtin.lenOf, Builtin.firstCells]
 ·have := run_append_room_src (P := Tryz.prog) W 23 23 ty 5 i0 Tryz.underlying23 hi g 0 n cap (.slice none 0 c) 0 [] (Src.ofNil W Tryz.underlying23 c) (by omega) (by simp) (by simp)
  simpa [World.setCells] using this
theorem Zf6 (W : World) (v : Value) (n base : Nat) (l : List Int) (ty : TypeId) (bv : Value) (xs : List Int) (hown : W.ownsRow base 5 1 v n (l.map (Value.int .u8))) (hx : IsB W bv xs) (hb : base ≤ W.heap.size) (hsz : n + xs.length ≤ 140737488355328) :
  ∃ v' w', (Builtin.append_ #[23, 23] ty #[v, bv]).run Tryz.prog W = .ok v' w' ∧ w'.ownsRow base 5 1 v' (n + xs.length) ((l ++ xs).map (Value.int .u8)) ∧ W.grownBy w' v.ownBlock := by
 obtain ⟨i0, hi, hz0, hz1, hz2⟩ := info_parts Tryz.info5
 have key : ∀ (p : Addr) (c : Nat), (∀ i, i < xs.length → W.cell? (p.add i) = some (.int .u8 (xs.getD i 0))) → ∃ v' w', (Builtin.append_ #[23, 23] ty #[v, .slice (some p) xs.length c]).run Tryz.prog W = .ok v' w' ∧ w'.ownsRow base 5 1 v' (n + xs.length) ((l ++ xs).map (Value.int .u8)) ∧ W.grownBy w' v.ownBlock := by
  intro p c hc
  obtain ⟨v', w', hr, h2, h3, h4⟩ := run_append_own (P := Tryz.prog) W base 23 ty 5 i0 (.int .u8 0) 1 1 Tryz.underlying23 hi hz0 hz1 hz2 rfl (by decide) v n _ hown p xs.length c (xs.map (Value.int .u8)) (by simp) (Zc5 rfl hc) (Zeg xs) (by unfold maxLen; omega) (by omega) hb
  exact ⟨v', w', hr, by rw [List.map_append]; exact h2, h3⟩
 rcases hx with ⟨rfl, ao, c, rfl⟩ | ⟨g, o, c, rfl, hc⟩
 ·cases ao with
  | none => exact ⟨v, W, Zt6 W v n base _ ty c hown, by simpa using hown, ⟨rfl, rfl, rfl, Nat.le_refl _, fun _ _ _ => rfl⟩⟩
  | some p => exact key p c (fun i hi => absurd hi (by simp))
 ·exact key ⟨g, o, none⟩ c (fun i hi => by rw [Addr.add_lit]; exact hc i hi)
theorem Zej {w : World} {ops : Array Oper} {rest : List Oper} {o : Oper} {a : Act} {Q : Exit → Act → World → Prop} (hgd : o.guard = none) (s x : Operand) (t u : TypeId)
  (ho : o.op = .call { callee := .builtin .append, args := #[s, x], argTypes := #[t, u] }) (v bv : Value) (hs : a.eval s = v) (hx : a.eval x = bv) (v' : Value) (w' : World)
  (hr : (Builtin.append_ #[t, u] o.type #[v, bv]).run Tryz.prog w = .ok v' w') (h : wpList Tryz.prog ops Q rest (a.put o.dst v') w') : wpList Tryz.prog ops Q (o :: rest) a w := by
 refine wpList_plain hgd fun K hK => ?_
 unfold Oper.wp execOp
 simp only [ho, resolve, invoke, builtin, Sem.run_bind, Sem.run_pure, Result.andThen_ok, List.map_toArray, List.map_cons, List.map_nil, hs, hx, hr]
 exact hK _ _ h
theorem Zdo {w : World} {B B' : Nat} {v : Value} {m : Nat} {l : List Value} (h : w.ownsRow B' 5 1 v m l) (hB : B ≤ B') : w.ownsRow B 5 1 v m l := by
 refine ⟨h.1, ?_⟩
 rcases h.2 with h | ⟨g, cap, cur, e, hb, r⟩
 ·exact .inl h
 ·exact .inr ⟨g, cap, cur, e, by omega, r⟩
theorem Zhs (W : World) (x : Value) (B : Nat) (hB : B ≤ W.heap.size) : (W.alloc (.cells #[x] 5)).ownsRow B 5 1 (.slice (some ⟨W.heap.size, 0, none⟩) 1 1) 1 [x] :=
 ⟨rfl, .inr ⟨W.heap.size, 1, #[x], rfl, hB, heap_alloc_new W _, Nat.le_refl _, by decide, rfl, rfl⟩⟩
open Go.ChangeShapes Go.WideShapes Go.ChangeAt Go.RowKit Go.Deep
section
variable {H : Type} {enc : TypeId × Value → H} {W : World} {base : Nat} {spare : Nat → Bool} {held : Bool}
end
namespace mintWrites
end mintWrites
end Go.Proofs.YtgoabnehdmdikaaGreatDoor
namespace Go.Proofs.YtgoabnehdmdikaaGreatDoor
open Go.RowKit
structure CV where
 k : Int
 n : Int
 o : Int
 bv : Value
 xs : List Int
section
variable {P : Program} {w : World}
end
def Zt7 (xs : List Int) : Prop := (∀ x ∈ xs, 0 ≤ x ∧ x ≤ 255) ∧ xs.length ≤ 140737488351232
end Go.Proofs.YtgoabnehdmdikaaGreatDoor
namespace Go.Proofs.YtgoabnehdmdikaaGreatDoor
open Go.RowKit
set_option maxRecDepth 100000 in
theorem Zrc (n : Int) (w : World) (hn : -9223372036854775808 ≤ n) (h1 : n < 9223372036854775808) :
  Calls Tryz.prog 198 #[.int .i64 n] w fun e w' => e = .returned (.int .u64 (Wg n)) ∧ w' = w := by
 unfold Wg
 by_cases h0 : n < 0
 ·rw [if_pos h0]
  go_enter Tryz.func198, Tryz.ntmps198
  go_wp2
  go_ret
  exact ⟨congrArg (fun x => Ending.returned (Value.int .u64 x)) (Zqp n hn h0), rfl⟩
 ·rw [if_neg h0]
  go_enter Tryz.func198, Tryz.ntmps198
  go_wp2
  go_ret
  exact ⟨congrArg (fun x => Ending.returned (Value.int .u64 x)) (Int.mul_comm n 2), rfl⟩
set_option maxRecDepth 100000 in
theorem Zw4 (a : Nat) (v : Value) (s : St) (n : Int) (w : World) (hw : WS w a v s) (hn : -9223372036854775808 ≤ n) (h1 : n < 9223372036854775808) :
  Calls Tryz.prog 171 #[.pointer (some ⟨a, 0, none⟩), .int .i64 n] w (PutS a v (s.put (Mth.form (Wg n))) w) := by
 have hf := Za (Zrc n w hn h1)
 have hw' := Za (Zlu a v s (Wg n) w hw (by unfold Wg; split <;> omega) (by unfold Wg; split <;> omega))
 clear hw
 generalize Wg n = u at *
 go_enter Tryz.func171, Tryz.ntmps171
 go_wp2_with fail
 refine hf.out.mono ?_
 rintro e w1 ⟨rfl, rfl⟩
 go_wp2_with fail
 refine hw'.out.mono ?_
 intro e w2 hp
 have HP := Za hp
 obtain ⟨rfl, _⟩ := hp
 clear hf hw'
 go_wp2
 go_end0
 exact HP.out
end Go.Proofs.YtgoabnehdmdikaaGreatDoor

import Derived.Test.YtpfmhibdmehlcaaGreatDoorTOx1
import Derived.Laws.Tables
import Derived.Laws.Rows
import Derived.Laws.ResultCell
import Derived.Deep.MidRow
import Derived.Deep.DeepCutAuto
import Derived.Deep.CutBlock
import Derived.Laws.BytesString
import Derived.Deep.AppendSrc
import Derived.Deep.Strs
import Derived.OpenShut
import Derived.ChangeOld
import Derived.Defers
import Derived.Recover
import Derived.Laws.BitsAllLaws
import Derived.Laws.Bits64
import Derived.LaidEqlPtr
import Derived.Deep.RegionLaw
import Derived.Laws.IdiomStrings
namespace Go.Proofs.YtpfmhibdmehlcaaGreatDoor
open Go.RowKit
set_option linter.unusedVariables false
set_option linter.unusedSimpArgs false
set_option maxRecDepth 100000
structure Sh where
 nm : ByteArray
 o : Int
 t : Int
 g : Int
def Sh.cells (s : Sh) : List Value := [.string s.nm, .int .i64 s.o, .int .i64 s.t, .int .i64 s.g]
def Sh.none : Sh := ⟨⟨#[]⟩, 0, 0, 0⟩
def insL : List Sh := [
 ⟨⟨#[110, 111, 112]⟩, 0, 0, 0⟩,
 ⟨⟨#[104, 97, 108, 116]⟩, 0, 1, 0⟩,
 ⟨⟨#[97, 98, 111, 114, 116]⟩, 0, 1, 0⟩,
 ⟨⟨#[110, 117, 109]⟩, 1, 0, 1⟩,
 ⟨⟨#[112, 111, 112]⟩, 0, 1, 0⟩,
 ⟨⟨#[99, 111, 112, 121]⟩, 6, 0, 1⟩,
 ⟨⟨#[115, 119, 97, 112]⟩, 0, 2, 2⟩,
 ⟨⟨#[103, 101, 116]⟩, 2, 0, 1⟩,
 ⟨⟨#[115, 101, 116]⟩, 2, 1, 0⟩,
 ⟨⟨#[108, 111, 97, 100]⟩, 0, 1, 1⟩,
 ⟨⟨#[115, 116, 111, 114, 101]⟩, 0, 2, 0⟩,
 ⟨⟨#[108, 111, 97, 100, 56]⟩, 0, 1, 1⟩,
 ⟨⟨#[115, 116, 111, 114, 101, 56]⟩, 0, 2, 0⟩,
 ⟨⟨#[115, 105, 122, 101]⟩, 0, 0, 1⟩,
 ⟨⟨#[106, 117, 109, 112]⟩, 3, 0, 0⟩,
 ⟨⟨#[122, 101, 114, 111]⟩, 3, 1, 0⟩,
 ⟨⟨#[110, 111, 116, 122, 101, 114, 111]⟩, 3, 1, 0⟩,
 ⟨⟨#[99, 97, 108, 108]⟩, 4, -1, -1⟩,
 ⟨⟨#[114, 101, 116]⟩, 0, -1, 0⟩,
 ⟨⟨#[115, 121, 115]⟩, 5, -1, 1⟩,
 ⟨⟨#[97, 100, 100]⟩, 0, 2, 1⟩,
 ⟨⟨#[115, 117, 98]⟩, 0, 2, 1⟩,
 ⟨⟨#[109, 117, 108]⟩, 0, 2, 1⟩,
 ⟨⟨#[100, 105, 118]⟩, 0, 2, 1⟩,
 ⟨⟨#[114, 101, 109]⟩, 0, 2, 1⟩,
 ⟨⟨#[97, 110, 100]⟩, 0, 2, 1⟩,
 ⟨⟨#[111, 114]⟩, 0, 2, 1⟩,
 ⟨⟨#[120, 111, 114]⟩, 0, 2, 1⟩,
 ⟨⟨#[115, 104, 108]⟩, 0, 2, 1⟩,
 ⟨⟨#[115, 104, 114]⟩, 0, 2, 1⟩,
 ⟨⟨#[117, 115, 104, 114]⟩, 0, 2, 1⟩,
 ⟨⟨#[101, 113]⟩, 0, 2, 1⟩,
 ⟨⟨#[108, 116]⟩, 0, 2, 1⟩,
 ⟨⟨#[117, 108, 116]⟩, 0, 2, 1⟩,
 ⟨⟨#[110, 101, 103]⟩, 0, 1, 1⟩,
 ⟨⟨#[110, 111, 116]⟩, 0, 1, 1⟩,
 ⟨⟨#[102, 97, 100, 100]⟩, 0, 2, 1⟩,
 ⟨⟨#[102, 115, 117, 98]⟩, 0, 2, 1⟩,
 ⟨⟨#[102, 109, 117, 108]⟩, 0, 2, 1⟩,
 ⟨⟨#[102, 100, 105, 118]⟩, 0, 2, 1⟩,
 ⟨⟨#[102, 101, 113]⟩, 0, 2, 1⟩,
 ⟨⟨#[102, 108, 116]⟩, 0, 2, 1⟩,
 ⟨⟨#[102, 110, 101, 103]⟩, 0, 1, 1⟩,
 ⟨⟨#[102, 114, 111, 111, 116]⟩, 0, 1, 1⟩,
 ⟨⟨#[116, 111, 102]⟩, 0, 1, 1⟩,
 ⟨⟨#[116, 111, 105]⟩, 0, 1, 1⟩]
def sysL : List Sh := [
 ⟨⟨#[111, 112, 101, 110]⟩, 0, 3, 1⟩,
 ⟨⟨#[114, 101, 97, 100]⟩, 0, 3, 1⟩,
 ⟨⟨#[119, 114, 105, 116, 101]⟩, 0, 3, 1⟩,
 ⟨⟨#[108, 105, 115, 116]⟩, 0, 4, 1⟩,
 ⟨⟨#[99, 108, 111, 115, 101]⟩, 0, 1, 1⟩]
def tcells (l : List Sh) : List Value := l.flatMap Sh.cells
def tparts (l : List Sh) : List (Nat × Value) := l.zipIdx.map fun (s, i) => (i, .agg s.cells.toArray)
theorem built57 : Tryz.prog.built 165 (tparts insL) = some (tcells insL).toArray := by kernel_rfl
theorem size57 : (Tryz.prog.info? 165).map (·.size) = some (tcells insL).toArray.size := by kernel_rfl
theorem one57 : (tcells insL).toArray.all (·.oneCell') = true := by kernel_rfl
theorem one63 : (tcells sysL).toArray.all (·.oneCell') = true := by kernel_rfl
def z57 : Array Value := (tcells (List.replicate 46 Sh.none)).toArray
def z63 : Array Value := (tcells (List.replicate 5 Sh.none)).toArray
theorem kept_row (w : World) (g : Nat) (cs : Array Value) : Kept (fun k => k = g) w (w.setRow g cs) :=
 ⟨rfl, rfl, rfl, by simp [World.setRow], fun k _ hn => setRow_other _ _ _ _ hn⟩
section
variable {ops : Array Oper} {o : Oper} {a : Act} {w : World} {Q : Exit → Act → World → Prop} {rest : List Oper}
theorem wpList_tab57 (hg : o.guard = none) (parts : Array (Nat × Operand)) (ho : o.op = .build 165 parts) (e : (parts.map fun (i, x) => (i, a.eval x)).toList = tparts insL)
  (h : wpList Tryz.prog ops Q rest (a.put o.dst (.agg (tcells insL).toArray)) w) : wpList Tryz.prog ops Q (o :: rest) a w := by
 refine wpList_build hg 165 _ ho (by rw [e, built57]; rfl) ?_
 rw [e, built57]
 exact h
theorem wpList_to (hg : o.guard = none) (dst : Option Tmp) (hdst : o.dst = dst) (v : Value) (w' : World) (hrun : (execOp a.eval o).run Tryz.prog w = .ok (.value v) w')
  (h : wpList Tryz.prog ops Q rest (a.put dst v) w') : wpList Tryz.prog ops Q (o :: rest) a w := by
 subst hdst
 refine wpList_plain hg fun K hK => ?_
 unfold Oper.wp
 rw [hrun, Oper.upon_value]
 exact hK _ _ h
end
theorem new_row (w : World) (z cs : Array Value) (t : TypeId) : (w.alloc (.cells z t)).heap[w.heap.size]? = some (.cells z t (0, 0)) ∧
  ((w.alloc (.cells z t)).setRow w.heap.size cs).heap[w.heap.size]? = some (.cells cs t (0, 0)) ∧ Kept (fun _ => False) w ((w.alloc (.cells z t)).setRow w.heap.size cs) := by
 have hO := heap_alloc_new w (.cells z t)
 exact ⟨hO, setRow_heap _ w.heap.size _ cs t (0, 0) hO, ((Kept.refl (fun _ => False) w).alloc _).step (kept_row _ w.heap.size _) (fun i hi e => by omega)⟩
set_option maxHeartbeats 4000000 in
theorem ins_any (w : World) : Calls Tryz.prog 81 #[] w fun e w' => e = .returned (.agg (tcells insL).toArray) ∧ Kept (fun _ => False) w w' := by
 obtain ⟨hO, hX, hK⟩ := new_row w z57 (tcells insL).toArray 165
 go_enter Tryz.func81, Tryz.ntmps81
 go_wp2_with (first | refine wpList_to rfl (some 0) rfl (.pointer (some ⟨w.heap.size, 0, none⟩)) (w.alloc (.cells z57 165)) (by kernel_rfl) ?_ | refine wpList_tab57 rfl _ rfl (by kernel_rfl) ?_ | refine wpList_store_row rfl 165 _ _ rfl w.heap.size (tcells insL).toArray rfl rfl 165 _ hO size57 (by kernel_rfl) one57 ?_)
 refine bodyPost_ret (v := .agg (tcells insL).toArray) ?_ rfl ⟨rfl, hK⟩
 exact results_cell_row (by rfl) _ _ w.heap.size 165 _ (0, 0) _ (by rfl) hX Tryz.underlying165 rfl size57
end Go.Proofs.YtpfmhibdmehlcaaGreatDoor
namespace Go.Proofs.YtpfmhibdmehlcaaGreatDoor
open Go.RowKit
set_option linter.unusedVariables false
set_option linter.unusedSimpArgs false
set_option maxRecDepth 100000
theorem results_row_tmp {fn : Func} {p u : Tmp} {ty : TypeId} (h : fn.results = #[.cell p ty, .tmp u]) (tmps : Array Value) (w : World) (a : Addr) (v x : Value)
  (hp : tmps.getD p undef = .pointer (some a)) (hx : tmps.getD u undef = x) (hl : (loadVar ty a).run Tryz.prog w = .ok v w) :
  (results fn tmps).run Tryz.prog w = .ok (.tuple #[v, x]) w := by
 rw [results_cell_tmp h, hp, hx]
 simp [asAddr, Result.andThen, hl]
def isRow (L : List Sh) (n : Int) : Bool := decide (0 ≤ n ∧ n < (L.length : Int))
def rowS (L : List Sh) (n : Int) : Sh := if 0 ≤ n ∧ n < (L.length : Int) then L.getD n.toNat Sh.none else Sh.none
theorem tcells_get (L : List Sh) (n j : Nat) (h : n < L.length) (hj : j < 4) : (tcells L)[n * 4 + j]? = ((L.getD n Sh.none).cells)[j]? := by
 induction L generalizing n with
 | nil => simp at h
 | cons x L ih =>
  have e : tcells (x :: L) = x.cells ++ tcells L := rfl
  cases n with
  | zero =>
   rw [e, List.getElem?_append_left (by simp [Sh.cells]; omega)]
   simp
  | succ n =>
   rw [e, List.getElem?_append_right (by simp [Sh.cells]; omega)]
   have := ih n (by simpa using h)
   simp only [Sh.cells, List.length_cons, List.length_nil, List.getD_cons_succ] at this ⊢
   rw [← this]
   congr 1
   omega
theorem sh_one (s : Sh) : s.cells.toArray.all (·.oneCell') = true := by
 rw [Array.all_eq_true_iff_forall_mem]
 intro v hv
 simp [Sh.cells] at hv
 rcases hv with rfl | rfl | rfl | rfl <;> rfl
theorem size24 : (Tryz.prog.info? 147).map (·.size) = some 4 := by kernel_rfl
theorem txt_eq {a b : ByteArray} (h : (a.toList == b.toList) = true) : a = b := by
 have e : a.data.toList = b.data.toList := by
  have := eq_of_beq h
  rwa [ByteArray.toList_eq, ByteArray.toList_eq] at this
 cases a
 cases b
 exact congrArg _ (Array.toList_inj.1 e)
theorem txt_ne {a b : ByteArray} (h : (a.toList == b.toList) = false) : a ≠ b := fun e => by
 subst e
 simp at h
def nameIx (L : List Sh) (s : ByteArray) : Nat := L.findIdx (fun x => decide (x.nm = s))
def namedV (L : List Sh) (s : ByteArray) : Value := if nameIx L s < L.length then .tuple #[.int .i64 (nameIx L s : Nat), .bool true] else .tuple #[.int .i64 0, .bool false]
theorem named_at {L : List Sh} {s : ByteArray} {k : Nat} (hk : k < L.length) (h0 : ∀ j, j < k → (L.getD j Sh.none).nm ≠ s) (h1 : (L.getD k Sh.none).nm = s) : namedV L s = .tuple #[.int .i64 (k : Nat), .bool true] := by
 have e : nameIx L s = k := by
  unfold nameIx
  rw [List.findIdx_eq hk]
  refine ⟨decide_eq_true ?_, fun j hj => decide_eq_false ?_⟩
  ·rw [← h1]
   simp [List.getD, List.getElem?_eq_getElem hk]
  ·have := h0 j hj
   simpa [List.getD, List.getElem?_eq_getElem (show j < L.length by omega)] using this
 unfold namedV
 rw [e, if_pos hk]
theorem named_none {L : List Sh} {s : ByteArray} (h0 : ∀ j, j < L.length → (L.getD j Sh.none).nm ≠ s) : namedV L s = .tuple #[.int .i64 0, .bool false] := by
 have e : nameIx L s = L.length := by
  unfold nameIx
  rw [List.findIdx_eq_length]
  intro x hx
  obtain ⟨j, hj, rfl⟩ := List.getElem_of_mem hx
  have := h0 j hj
  exact decide_eq_false (by simpa [List.getD, List.getElem?_eq_getElem hj] using this)
 unfold namedV
 rw [e, if_neg (Nat.lt_irrefl _)]
theorem tab_range {L : List Sh} {w : World} {g t k : Nat} (hg : w.heap[g]? = some (.cells (tcells L).toArray t (0, 0))) (hk : k < L.length) : w.rangeAt g (k * 4) (L.getD k Sh.none).cells := fun j v hv => by
 have hj : j < 4 := by
  have := (List.getElem?_eq_some_iff.1 hv).1
  simpa [Sh.cells] using this
 rw [cell_block _ _ _ _ _ _ hg]
 have := tcells_get L k j hk hj
 rw [hv] at this
 simpa using this
theorem box_kept {S : Nat → Prop} {w w' : World} {B : Nat} {o : Obj} (h : Kept S w w') (hb : w.heap[B]? = some o) (hs : ¬ S B) : w'.heap[B]? = some o := (h.block B (Array.getElem?_eq_some_iff.1 hb).1 hs).trans hb
theorem row_at {L : List Sh} {k : Nat} (h : k < L.length) : rowS L (k : Int) = L.getD k Sh.none ∧ isRow L (k : Int) = true := by
 have h' : 0 ≤ (k : Int) ∧ (k : Int) < (L.length : Int) := by omega
 unfold rowS isRow
 rw [if_pos h', decide_eq_true h']
 exact ⟨by simp, rfl⟩
theorem sh_lit (nm : ByteArray) (o t g : Int) : (Sh.mk nm o t g).cells.toArray = #[.string nm, .int .i64 o, .int .i64 t, .int .i64 g] := rfl
theorem size74 : (Tryz.prog.info? 141).map (·.size) = some 3 := by kernel_rfl
abbrev fnV (n : Nat) : Value := .func (.func n) #[] #[]
def kindL (bx : Nat → Nat) : Nat → List Value
 | 0 => [fnV 132, fnV 133, fnV 134]
 | 1 => [fnV 135, fnV 136, fnV 138]
 | k => [.func (.func 140) #[] #[.pointer (some ⟨bx k, 0, none⟩)], fnV 141, fnV 142]
theorem kind_len (bx : Nat → Nat) (k : Nat) : (kindL bx k).length = 3 := by
 unfold kindL; split <;> rfl
theorem kind_one (bx : Nat → Nat) (k : Nat) : (kindL bx k).toArray.all (·.oneCell') = true := by
 rw [Array.all_eq_true_iff_forall_mem]
 intro v hv
 unfold kindL at hv
 split at hv <;> (simp at hv; rcases hv with rfl | rfl | rfl <;> rfl)
theorem three_one (a b c : Value) (ha : a.oneCell' = true) (hb : b.oneCell' = true) (hc : c.oneCell' = true) : #[a, b, c].all (·.oneCell') = true := by
 rw [Array.all_eq_true_iff_forall_mem]
 intro v hv
 simp at hv
 rcases hv with rfl | rfl | rfl <;> assumption
def endOf : Nat → Int
 | 2 => 64
 | 3 => 4096
 | 4 => 64
 | 5 => 5
 | 6 => 256
 | _ => 0
set_option maxHeartbeats 4000000 in
theorem below_any (n : Int) (w : World) : Calls Tryz.prog 109 #[.int .i64 n] w fun e w' => e = .returned (.agg #[.func (.func 140) #[] #[.pointer (some ⟨w.heap.size, 0, none⟩)], fnV 141, fnV 142]) ∧ w'.heap[w.heap.size]? = some (.cells #[.int .i64 n] 3 (0, 0)) ∧ Kept (fun _ => False) w w' := by
 have h1 : (w.alloc (.cells #[.int .i64 n] 3)).heap.size = w.heap.size + 1 := by simp
 obtain ⟨hO, hX, hK⟩ := new_row (w.alloc (.cells #[.int .i64 n] 3)) #[.nilFunc, .nilFunc, .nilFunc] #[.func (.func 140) #[] #[.pointer (some ⟨w.heap.size, 0, none⟩)], fnV 141, fnV 142] 141
 rw [h1] at hO hX hK
 have HB := hid_of (box_kept hK (heap_alloc_new w (.cells #[.int .i64 n] 3)) id)
 have HK : Hid (Kept (fun _ => False) w _) := ((Kept.refl (fun _ => False) w).alloc (.cells #[.int .i64 n] 3)).trans hK
 have HX := hid_of hX
 clear hX hK h1
 go_enter Tryz.func109, Tryz.ntmps109
 go_wp2_with (refine wpList_store_row rfl 141 _ _ rfl (w.heap.size + 1) #[.func (.func 140) #[] #[.pointer (some ⟨w.heap.size, 0, none⟩)], fnV 141, fnV 142] rfl rfl 141 _ hO size74 rfl (three_one _ _ _ rfl rfl rfl) ?_)
 refine bodyPost_ret (v := .agg #[.func (.func 140) #[] #[.pointer (some ⟨w.heap.size, 0, none⟩)], fnV 141, fnV 142]) ?_ rfl ⟨rfl, HB.out, HK.out⟩
 exact results_cell_row (by rfl) _ _ (w.heap.size + 1) 141 _ (0, 0) _ (by rfl) HX.out Tryz.underlying141 rfl size74
set_option maxHeartbeats 4000000 in
theorem none_any (w : World) : Calls Tryz.prog 107 #[] w fun e w' => e = .returned (.agg #[fnV 132, fnV 133, fnV 134]) ∧ Kept (fun _ => False) w w' := by
 obtain ⟨hO, hX, hK⟩ := new_row w #[.nilFunc, .nilFunc, .nilFunc] #[fnV 132, fnV 133, fnV 134] 141
 have HX := hid_of hX
 have HK := hid_of hK
 clear hX hK
 go_enter Tryz.func107, Tryz.ntmps107
 go_wp2_with (refine wpList_store_row rfl 141 _ _ rfl w.heap.size #[fnV 132, fnV 133, fnV 134] rfl rfl 141 _ hO size74 rfl (three_one _ _ _ rfl rfl rfl) ?_)
 refine bodyPost_ret (v := .agg #[fnV 132, fnV 133, fnV 134]) ?_ rfl ⟨rfl, HK.out⟩
 exact results_cell_row (by rfl) _ _ w.heap.size 141 _ (0, 0) _ (by rfl) HX.out Tryz.underlying141 rfl size74
set_option maxHeartbeats 4000000 in
theorem anynum_any (w : World) : Calls Tryz.prog 108 #[] w fun e w' => e = .returned (.agg #[fnV 135, fnV 136, fnV 138]) ∧ Kept (fun _ => False) w w' := by
 obtain ⟨hO, hX, hK⟩ := new_row w #[.nilFunc, .nilFunc, .nilFunc] #[fnV 135, fnV 136, fnV 138] 141
 have HX := hid_of hX
 have HK := hid_of hK
 clear hX hK
 go_enter Tryz.func108, Tryz.ntmps108
 go_wp2_with (refine wpList_store_row rfl 141 _ _ rfl w.heap.size #[fnV 135, fnV 136, fnV 138] rfl rfl 141 _ hO size74 rfl (three_one _ _ _ rfl rfl rfl) ?_)
 refine bodyPost_ret (v := .agg #[fnV 135, fnV 136, fnV 138]) ?_ rfl ⟨rfl, HK.out⟩
 exact results_cell_row (by rfl) _ _ w.heap.size 141 _ (0, 0) _ (by rfl) HX.out Tryz.underlying141 rfl size74
end Go.Proofs.YtpfmhibdmehlcaaGreatDoor
namespace Go.Proofs.YtpfmhibdmehlcaaGreatDoor
open Go.RowKit
set_option linter.unusedVariables false
theorem IsB.shape {w : World} {v : Value} {xs : List Int} (h : IsB w v xs) : ∃ ao c, v = .slice ao xs.length c := by
 rcases h with ⟨rfl, ao, c, rfl⟩ | ⟨g, o, c, rfl, hc⟩
 ·exact ⟨_, _, rfl⟩
 ·exact ⟨_, _, rfl⟩
theorem IsB.kept {w w' : World} {v : Value} {xs : List Int} {S : Nat → Prop} (h : IsB w v xs) (hk : Kept S w w') (hS : ∀ g, v.ownBlock = some g → ¬ S g) : IsB w' v xs := by
 rcases h with ⟨rfl, ao, c, rfl⟩ | ⟨g, o, c, rfl, hc⟩
 ·exact .inl ⟨rfl, _, _, rfl⟩
 ·exact .inr ⟨g, o, c, rfl, fun i hi => hk.cell (hc i hi) (hS g rfl)⟩
def str (xs : List Int) : ByteArray := xs.foldl (fun r n => r.push (UInt8.ofNat n.toNat)) ByteArray.empty
theorem push_data (r : ByteArray) (b : UInt8) : (r.push b).data.toList = r.data.toList ++ [b] := by simp [ByteArray.push]
theorem fold_data (xs : List Int) : ∀ r : ByteArray, (xs.foldl (fun r n => r.push (UInt8.ofNat n.toNat)) r).data.toList = r.data.toList ++ xs.map fun n => UInt8.ofNat n.toNat := by
 induction xs with
 | nil => intro r; simp
 | cons x xs ih => intro r; rw [List.foldl_cons, ih, push_data]; simp
theorem str_size (xs : List Int) : (str xs).size = xs.length := by
 have : (str xs).size = (str xs).data.toList.length := by simp
 rw [this]
 unfold str
 rw [fold_data]
 have e : (ByteArray.empty.data.toList : List UInt8) = [] := rfl
 simp
theorem conv_str (w : World) (v : Value) (xs : List Int) (h : IsB w v xs) : (convert 22 9 v).run Tryz.prog w = .ok (.string (str xs)) w := by
 rcases h with ⟨rfl, ao, c, rfl⟩ | ⟨g, o, c, rfl, hc⟩
 ·rw [run_convert_bytes_string w 22 9 5 ao 0 c Tryz.underlying22 Tryz.underlying5 Tryz.underlying9]
  cases ao with
  | none => simp [Conv.bytesToString, str]
  | some p => exact run_bytesToString w p 0 c [] (run_loadCells_list w p [] (fun j v h => by cases h))
 ·rw [run_convert_bytes_string w 22 9 5 _ _ c Tryz.underlying22 Tryz.underlying5 Tryz.underlying9]
  refine run_bytesToString w _ _ c xs ?_
  have := run_loadCells_list (P := Tryz.prog) w ⟨g, o, none⟩ (xs.map (Value.int .u8)) (map_cells rfl (fun i hi => by rw [Addr.add_lit]; exact hc i hi))
  simpa using this
theorem own_less {w : World} {B B' : Nat} {v : Value} {m : Nat} {l : List Value} (h : w.ownsRow B' 5 1 v m l) (hB : B ≤ B') : w.ownsRow B 5 1 v m l := by
 refine ⟨h.1, ?_⟩
 rcases h.2 with h | ⟨g, cap, cur, e, hb, r⟩
 ·exact .inl h
 ·exact .inr ⟨g, cap, cur, e, by omega, r⟩
open Go.ChangeShapes Go.WideShapes Go.ChangeAt Go.RowKit Go.Deep
section
variable {H : Type} {enc : TypeId × Value → H} {W : World} {base : Nat} {spare : Nat → Bool} {held : Bool}
end
namespace mintWrites
end mintWrites
end Go.Proofs.YtpfmhibdmehlcaaGreatDoor
namespace Go.Proofs.YtpfmhibdmehlcaaGreatDoor
open Go.RowKit
set_option linter.unusedVariables false
structure CV where
 k : Int
 n : Int
 o : Int
 bv : Value
 xs : List Int
section
variable {P : Program} {w : World}
end
def BytesOk (xs : List Int) : Prop := (∀ x ∈ xs, 0 ≤ x ∧ x ≤ 255) ∧ xs.length ≤ 140737488351232
end Go.Proofs.YtpfmhibdmehlcaaGreatDoor
namespace Go.Proofs.YtpfmhibdmehlcaaGreatDoor
open Go.RowKit
set_option linter.unusedVariables false
set_option linter.unusedSimpArgs false
set_option maxRecDepth 100000 in
set_option maxHeartbeats 1000000 in
theorem fold_any (n : Int) (w : World) (hn : -9223372036854775808 ≤ n) (h1 : n < 9223372036854775808) :
  Calls Tryz.prog 162 #[.int .i64 n] w fun e w' => e = .returned (.int .u64 (fold n)) ∧ w' = w := by
 unfold fold
 by_cases h0 : n < 0
 ·rw [if_pos h0]
  go_enter Tryz.func162, Tryz.ntmps162
  go_wp2
  go_ret
  exact ⟨congrArg (fun x => Ending.returned (Value.int .u64 x)) (fold_neg n hn h0), rfl⟩
 ·rw [if_neg h0]
  go_enter Tryz.func162, Tryz.ntmps162
  go_wp2
  go_ret
  exact ⟨congrArg (fun x => Ending.returned (Value.int .u64 x)) (Int.mul_comm n 2), rfl⟩
set_option maxRecDepth 100000 in
set_option maxHeartbeats 1000000 in
theorem int_s (a : Nat) (v : Value) (s : St) (n : Int) (w : World) (hw : WS w a v s) (hn : -9223372036854775808 ≤ n) (h1 : n < 9223372036854775808) :
  Calls Tryz.prog 137 #[.pointer (some ⟨a, 0, none⟩), .int .i64 n] w (PutS a v (s.put (Mth.form (fold n))) w) := by
 have hf := hid_of (fold_any n w hn h1)
 have hw' := hid_of (wform_s a v s (fold n) w hw (by unfold fold; split <;> omega) (by unfold fold; split <;> omega))
 clear hw
 generalize fold n = u at *
 go_enter Tryz.func137, Tryz.ntmps137
 go_wp2_with fail
 refine hf.out.mono ?_
 rintro e w1 ⟨rfl, rfl⟩
 go_wp2_with fail
 refine hw'.out.mono ?_
 intro e w2 hp
 have HP := hid_of hp
 obtain ⟨rfl, _⟩ := hp
 clear hf hw'
 go_wp2
 go_end0
 exact HP.out
end Go.Proofs.YtpfmhibdmehlcaaGreatDoor

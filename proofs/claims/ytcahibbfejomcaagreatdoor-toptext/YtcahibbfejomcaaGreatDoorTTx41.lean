import Derived.Test.YtcahibbfejomcaaGreatDoorTTx39
import Derived.Test.YtcahibbfejomcaaGreatDoorTTx40
import Derived.Test.YtcahibbfejomcaaGreatDoorTTx1
import Derived.WalkKit
import Derived.ProofKit
import Derived.Maps.AppendAt
import Derived.Deep.RegionHeld3
import Derived.Lib.SliceRun
import Derived.Laws.BitsAllLaws
import Derived.Lib.AppendStr
import Derived.Deep.QuietTactic
import Derived.BigQuiet
import Derived.WalkSmall
import Derived.Laws.CopyRow
import Derived.Laws.IdiomCopy
import Derived.Test.YtcahibbfejomcaaGreatDoorTTx2
import Derived.Laws.BytesString
import Derived.Deep.AppendSrc
import Derived.Deep.Strs
import Derived.OpenShut
import Derived.ChangeOld
import Derived.Defers
import Derived.Recover
import Derived.Laws.Bits64
import Derived.LaidEqlPtr
import Derived.Deep.RegionLaw
import Derived.Laws.IdiomStrings
import Derived.Test.YtcahibbfejomcaaGreatDoorTTx4
import Derived.Test.YtcahibbfejomcaaGreatDoorTTx3
import Derived.Laws.Tables
import Derived.Laws.Rows
import Derived.Laws.ResultCell
import Derived.Deep.MidRow
import Derived.Deep.DeepCutAuto
import Derived.Deep.CutBlock
import Derived.Lib.SmallJoins
import Derived.Great.BuildSlice
import Derived.Laws.StructEq
namespace Go.Proofs.YtcahibbfejomcaaGreatDoor
open Go.RowKit
set_option linter.unusedVariables false
set_option linter.unusedSimpArgs false
set_option maxRecDepth 100000
theorem allocs2 (w : World) (c1 : Array Value) (t1 : TypeId) (c2 : Array Value) (t2 : TypeId) (W : World) (hW : W = (w.alloc (.cells c1 t1)).alloc (.cells c2 t2)) :
  Kept (fun _ => False) w W ∧ W.heap[w.heap.size]? = some (.cells c1 t1 (0, 0)) ∧ W.heap[w.heap.size + 1]? = some (.cells c2 t2 (0, 0)) := by
 subst hW
 refine ⟨((Kept.refl _ _).alloc _).alloc _, ?_, ?_⟩
 ·rw [heap_alloc_old _ _ (by simp)]; exact heap_alloc_new w _
 ·exact (by simp : (w.alloc (.cells c1 t1)).heap.size = w.heap.size + 1) ▸ heap_alloc_new _ _
theorem FnAt.up {w : World} {B B' g o : Nat} {f : FN} (h : FnAt w B g o f) (hb : B ≤ B') : FnAt w B' g o f := by
 obtain ⟨cv, h1, h2, h3⟩ := h
 exact ⟨cv, h1, h2, fun q hq h0 => Nat.lt_of_lt_of_le (h3 q hq h0) hb⟩
theorem RowF.up {w : World} {B B' : Nat} {v : Value} {fs : List FN} (h : RowF w B v fs) (hb : B ≤ B') : RowF w B' v fs := by
 rcases h with h | ⟨g, o, c, e, hg, h⟩
 ·exact .inl h
 ·exact .inr ⟨g, o, c, e, Nat.lt_of_lt_of_le hg hb, fun i f hf => (h i f hf).up hb⟩
theorem PgIs.up {w : World} {B B' : Nat} {v : Value} {p : PG} (h : PgIs w B v p) (hb : B ≤ B') : PgIs w B' v p := by
 obtain ⟨dv, fv, e, h1, h2, h3⟩ := h
 exact ⟨dv, fv, e, h1, fun q hq => Nat.lt_of_lt_of_le (h2 q hq) hb, h3.up hb⟩
def p7 : PG := ⟨0, [], [⟨0, 0, 1, [⟨3, 7⟩, ⟨18, 0⟩]⟩]⟩
theorem p7_ok : p7.Ok := by
 refine ⟨by decide, ⟨by simp [p7], by simp [p7]⟩, fun f hf => ?_, by decide⟩
 simp [p7] at hf
 subst hf
 exact ⟨by decide, by decide, by decide, fun y hy => by simp at hy; rcases hy with rfl | rfl <;> exact ⟨by decide, by decide⟩, by decide⟩
abbrev out7 : ByteArray := ⟨#[109, 101, 109, 111, 114, 121, 32, 48, 10, 102, 117, 110, 99, 32, 102, 48, 32, 48, 32, 48, 32, 49, 10, 9, 110, 117, 109, 32, 55, 10, 9, 114, 101, 116, 10]⟩
theorem p7_printed : printE p7 = 0 ∧ printS p7 = out7 := by
 constructor <;> kernel_rfl
theorem size45 : (Tryz.prog.info? 45).map (·.size) = some 14 := by kernel_rfl
def Pg7 (w : World) (B : Nat) (fv : Value) : Prop := ∃ cv, w.ownsRow B 56 4 fv 1 [.int .i64 0, .int .i64 0, .int .i64 1, cv] ∧ w.ownsRow B 72 2 cv 2 [.int .i64 3, .int .i64 7, .int .i64 18, .int .i64 0]
theorem pg_seven (w : World) (B : Nat) (fv : Value) (hp : Pg7 w B fv) : PgIs w w.heap.size (.agg #[.int .i64 0, .slice none 0 0, fv]) p7 := by
 obtain ⟨cv, hf, ho⟩ := hp
 obtain ⟨gf, cf, rfl⟩ := own_at hf (by decide)
 obtain ⟨gc, cc, rfl⟩ := own_at ho (by decide)
 refine ⟨_, _, rfl, .inl ⟨rfl, _, _, rfl⟩, (fun q hq => by cases hq), .inr ⟨gf, 0, cf, rfl, (hf.lt gf rfl).2, fun i f hi => ?_⟩⟩
 have hi0 : i = 0 := by
  have := (List.getElem?_eq_some_iff.1 hi).1
  simp [p7] at this
  exact this
 subst hi0
 simp [p7] at hi
 subst hi
 refine ⟨_, fun j v hv => ?_, .inr ⟨gc, 0, cc, rfl, fun i y hy => ?_⟩, fun q hq _ => (ho.lt q hq).2⟩
 ·have := hf.cells (g := gf) rfl j v hv
  rw [Addr.add_lit, Nat.zero_add] at this
  simpa using this
 ·have hi2 : i = 0 ∨ i = 1 := by
   have := (List.getElem?_eq_some_iff.1 hy).1
   simp at this
   omega
  rcases hi2 with rfl | rfl
  ·simp at hy
   subst hy
   intro j v hv
   have hj : j < 2 := by have := (List.getElem?_eq_some_iff.1 hv).1; simpa [IN.cells] using this
   have := ho.cells (g := gc) rfl j v (by
    have h2 : j = 0 ∨ j = 1 := by omega
    rcases h2 with rfl | rfl <;> simpa [IN.cells] using hv)
   rw [Addr.add_lit, Nat.zero_add] at this
   rw [show 0 + 0 * 2 + j = j by omega]
   exact this
  ·simp at hy
   subst hy
   intro j v hv
   have hj : j < 2 := by have := (List.getElem?_eq_some_iff.1 hv).1; simpa [IN.cells] using this
   have := ho.cells (g := gc) rfl (2 + j) v (by
    have h2 : j = 0 ∨ j = 1 := by omega
    rcases h2 with rfl | rfl <;> simpa [IN.cells] using hv)
   rw [Addr.add_lit, Nat.zero_add] at this
   rw [show 0 + 1 * 2 + j = 2 + j by omega]
   exact this
set_option maxHeartbeats 16000000 in
theorem seven_any (w : World) : Calls Tryz.prog 10 #[] w fun e w' => ∃ fa fc, e = .returned (.agg #[.int .i64 0, .slice none 0 0, .slice fa 1 fc, .slice none 0 0, .int .i64 9, .int .i64 0, .int .i64 9, .int .i64 0, .int .i64 0, .int .i64 0, .int .i64 1, .int .i64 0, .slice none 0 0, .bool false]) ∧ Pg7 w' w.heap.size (.slice fa 1 fc) ∧ Kept (fun _ => False) w w' := by
 obtain ⟨W1, hW1⟩ := nmd (w.alloc (.cells #[.int .i64 0, .slice none 0 0, .slice none 0 0, .slice none 0 0, .int .i64 0, .int .i64 0, .int .i64 0, .int .i64 0, .int .i64 0, .int .i64 0, .int .i64 0, .int .i64 0, .slice none 0 0, .bool false] 45))
 have k1 : Kept (fun _ => False) w W1 := by rw [hW1]; exact (Kept.refl _ _).alloc _
 have x1 : W1.heap[w.heap.size]? = some (.cells #[.int .i64 0, .slice none 0 0, .slice none 0 0, .slice none 0 0, .int .i64 0, .int .i64 0, .int .i64 0, .int .i64 0, .int .i64 0, .int .i64 0, .int .i64 0, .int .i64 0, .slice none 0 0, .bool false] 45 (0, 0)) := by rw [hW1]; exact heap_alloc_new _ _
 obtain ⟨W3, hW3⟩ := nmd ((W1.alloc (.cells #[.int .i64 3, .int .i64 7, .int .i64 18, .int .i64 0] 72)).alloc (.cells #[.int .i64 0, .int .i64 0, .int .i64 1, .slice (some ⟨W1.heap.size, 0, none⟩) 2 2] 56))
 obtain ⟨k3, y1, y2⟩ := allocs2 _ _ _ _ _ _ hW3
 have hlt : w.heap.size < W1.heap.size := (Array.getElem?_eq_some_iff.1 x1).1
 have x3 := box_kept k3 x1 id
 have hx4 := setRow_heap W3 w.heap.size _ #[.int .i64 0, .slice none 0 0, .slice (some ⟨W1.heap.size + 1, 0, none⟩) 1 1, .slice none 0 0, .int .i64 9, .int .i64 0, .int .i64 9, .int .i64 0, .int .i64 0, .int .i64 0, .int .i64 1, .int .i64 0, .slice none 0 0, .bool false] 45 _ x3
 have hkr := kept_row W3 w.heap.size #[.int .i64 0, .slice none 0 0, .slice (some ⟨W1.heap.size + 1, 0, none⟩) 1 1, .slice none 0 0, .int .i64 9, .int .i64 0, .int .i64 9, .int .i64 0, .int .i64 0, .int .i64 0, .int .i64 1, .int .i64 0, .slice none 0 0, .bool false]
 have HPG : Hid (Pg7 (W3.setRow w.heap.size #[.int .i64 0, .slice none 0 0, .slice (some ⟨W1.heap.size + 1, 0, none⟩) 1 1, .slice none 0 0, .int .i64 9, .int .i64 0, .int .i64 9, .int .i64 0, .int .i64 0, .int .i64 0, .int .i64 1, .int .i64 0, .slice none 0 0, .bool false]) w.heap.size (.slice (some ⟨W1.heap.size + 1, 0, none⟩) 1 1)) :=
  ⟨_, ⟨rfl, .inr ⟨_, 1, _, rfl, Nat.le_trans k1.size (Nat.le_succ _), box_kept hkr y2 (fun e => by omega), Nat.le_refl _, by decide, rfl, rfl⟩⟩, ⟨rfl, .inr ⟨_, 2, _, rfl, k1.size, box_kept hkr y1 (fun e => by omega), Nat.le_refl _, by decide, rfl, rfl⟩⟩⟩
 have HX3 := hid_of x3
 have HX4 := hid_of hx4
 have HK4 := hid_of ((k1.trans k3).step hkr (fun i hi e => by omega))
 clear k1 x1 k3 y1 y2 x3 hx4 hkr
 go_enter Tryz.func10, Tryz.ntmps10
 go_upto_region 1 with fail
 rw [← hW1]
 have h3 := HX3.out
 rw [hW3] at h3 HPG HX4 HK4
 clear hW1 hW3 HX3 hlt
 go_wp2_with (refine wpList_store_row rfl 45 _ _ rfl w.heap.size #[.int .i64 0, .slice none 0 0, .slice (some ⟨W1.heap.size + 1, 0, none⟩) 1 1, .slice none 0 0, .int .i64 9, .int .i64 0, .int .i64 9, .int .i64 0, .int .i64 0, .int .i64 0, .int .i64 1, .int .i64 0, .slice none 0 0, .bool false] rfl rfl 45 _ h3 size45 rfl (by simp [Value.oneCell']) ?_)
 refine bodyPost_ret (v := .agg #[.int .i64 0, .slice none 0 0, .slice (some ⟨W1.heap.size + 1, 0, none⟩) 1 1, .slice none 0 0, .int .i64 9, .int .i64 0, .int .i64 9, .int .i64 0, .int .i64 0, .int .i64 0, .int .i64 1, .int .i64 0, .slice none 0 0, .bool false]) ?_ rfl ⟨_, _, rfl, HPG.out, HK4.out⟩
 exact results_cell_row (by rfl) _ _ w.heap.size 45 _ (0, 0) _ (by rfl) HX4.out Tryz.underlying45 rfl size45
end Go.Proofs.YtcahibbfejomcaaGreatDoor
namespace Go.Proofs.YtcahibbfejomcaaGreatDoor.Mth
set_option linter.unusedVariables false
theorem be_byte (k : Nat) (u : Int) : ∀ x ∈ be k u, 0 ≤ x ∧ x ≤ 255 := by
 induction k with
 | zero => intro x hx; cases hx
 | succ k ih =>
  intro x hx
  rcases List.mem_cons.1 hx with rfl | hx
  ·omega
  ·exact ih x hx
theorem pow_pos (k : Nat) : (0 : Int) < (256 : Int) ^ k := by
 induction k with
 | zero => decide
 | succ k ih => rw [Int.pow_succ]; omega
theorem be_ahead (k : Nat) (a b : Int) (h : a / (256 : Int) ^ k = b / (256 : Int) ^ k) (hab : a < b) : ahead (be k a) (be k b) = true ∧ ahead (be k b) (be k a) = false := by
 induction k with
 | zero => simp at h; omega
 | succ k ih =>
  have hp := pow_pos k
  rw [Int.pow_succ, ← Int.ediv_ediv_of_nonneg (by omega), ← Int.ediv_ediv_of_nonneg (by omega)] at h
  have hm := Int.ediv_le_ediv hp (Int.le_of_lt hab)
  simp only [be, ahead]
  by_cases e : a / (256 : Int) ^ k = b / (256 : Int) ^ k
  ·have := ih e
   rw [e]
   simp only [if_true]
   exact this
  ·generalize a / (256 : Int) ^ k = x at *
   generalize b / (256 : Int) ^ k = y at *
   rw [if_neg (by omega), if_neg (by omega)]
   exact ⟨by simp; omega, by simp; omega⟩
theorem sz_spec (u : Int) (h1 : u < 18446744073709551616) : u < (256 : Int) ^ sz u := by
 unfold sz
 repeat' split
 all_goals (simp only [Int.reducePow]; omega)
end Go.Proofs.YtcahibbfejomcaaGreatDoor.Mth
namespace Go.Proofs.YtcahibbfejomcaaGreatDoor
open Go.RowKit
set_option linter.unusedVariables false
theorem St.put_put (s : St) (m k : List Int) : (s.put m).put k = s.put (m ++ k) := by
 cases s with
 | error e => rfl
 | ok l =>
  simp only [St.put]
  by_cases h : l.length + m.length ≤ 4194304
  ·rw [if_pos h]
   simp only [List.length_append, List.append_assoc, Nat.add_assoc]
  ·rw [if_neg h, if_neg (by simp only [List.length_append]; omega)]
open Go.RowKit Go.Lib
section
variable {P : Program} (w : World)
end
theorem form_pos (u : Int) : 1 ≤ (Mth.form u).length := by
 unfold Mth.form
 split <;> simp
end Go.Proofs.YtcahibbfejomcaaGreatDoor
namespace Go.Proofs.YtcahibbfejomcaaGreatDoor
open Go.RowKit
set_option linter.unusedVariables false
theorem str_nums (xs : List Int) (h : ∀ x ∈ xs, 0 ≤ x ∧ x ≤ 255) : nums (str xs) = xs := by
 unfold nums str
 rw [fold_data]
 have e : (ByteArray.empty.data.toList : List UInt8) = [] := rfl
 rw [e, List.nil_append, List.map_map]
 conv => rhs; rw [← List.map_id xs]
 apply List.map_congr_left
 intro x hx
 have := h x hx
 simp only [Function.comp, id]
 rw [UInt8.toNat_ofNat']
 omega
theorem be_snoc (m : Nat) (y : Int) : Mth.be (m + 1) y = Mth.be m (y / 256) ++ [y % 256] := by
 induction m with
 | zero => simp [Mth.be]
 | succ m ih =>
  have e : y / (256 : Int) ^ (m + 1) = y / 256 / (256 : Int) ^ m := by
   rw [Int.ediv_ediv_of_nonneg (by omega), Int.pow_succ, Int.mul_comm]
  rw [Mth.be, ih, Mth.be, e]
  rfl
theorem World.ownsRow.mk' {w : World} {base : Nat} {e : TypeId} {size : Nat} {v : Value} {n : Nat} {xs : List Value} (h : w.ownsRow base e size v n xs) : (v = .slice none 0 0 ∧ n = 0) ∨ ∃ g cap, v = .slice (some ⟨g, 0, none⟩) n cap := by
 rcases h.2 with h | ⟨g, cap, _, e, _⟩
 ·exact .inl h
 ·exact .inr ⟨g, cap, e⟩
open Go.ChangeShapes Go.WideShapes Go.ChangeAt Go.RowKit Go.Deep
section
variable {H : Type} {enc : TypeId × Value → H} {W : World} {base : Nat} {spare : Nat → Bool} {held : Bool}
end
namespace mintWrites
end mintWrites
end Go.Proofs.YtcahibbfejomcaaGreatDoor
namespace Go.Proofs.YtcahibbfejomcaaGreatDoor
open Go.RowKit
set_option linter.unusedVariables false
theorem bval_snoc (l : List Int) (d : Int) : bval (l ++ [d]) = bval l * 256 + d := by simp [bval, List.foldl_append]
theorem be_bval (n : Nat) : ∀ ds : List Int, ds.length = n → (∀ x ∈ ds, 0 ≤ x ∧ x ≤ 255) → 0 ≤ bval ds ∧ bval ds < (256 : Int) ^ n ∧ ds = Mth.be n (bval ds) := by
 induction n with
 | zero =>
  intro ds hl _
  rw [List.length_eq_zero_iff.1 hl]
  exact ⟨Int.le_refl _, by simp [bval], rfl⟩
 | succ n ih =>
  intro ds hl hb
  have hne : ds ≠ [] := by intro e; rw [e] at hl; simp at hl
  have hsp := List.dropLast_concat_getLast hne
  obtain ⟨h0, h1, h2⟩ := ih ds.dropLast (by rw [List.length_dropLast, hl]; rfl) (fun x hx => hb x (List.dropLast_subset _ hx))
  have hd := hb (ds.getLast hne) (List.getLast_mem hne)
  have hv : bval ds = bval ds.dropLast * 256 + ds.getLast hne := by rw [← bval_snoc, hsp]
  rw [hv]
  refine ⟨by omega, by rw [Int.pow_succ]; omega, ?_⟩
  rw [be_snoc, show (bval ds.dropLast * 256 + ds.getLast hne) / 256 = bval ds.dropLast by omega, show (bval ds.dropLast * 256 + ds.getLast hne) % 256 = ds.getLast hne by omega, ← h2]
  exact hsp.symm
theorem formD_cons (x : Int) (t : List Int) : formD (x :: t) = if x ≤ 247 then .ok (x, t) else if t.length < (x - 247).toNat then .error 11
  else if bval (t.take (x - 247).toNat) ≤ 247 ∨ Mth.sz (bval (t.take (x - 247).toNat)) ≠ (x - 247).toNat then .error 12 else .ok (bval (t.take (x - 247).toNat), t.drop (x - 247).toNat) := rfl
def rawD (n : Int) (xs : List Int) : Except Int (List Int × List Int) := if n < 0 then .error 1 else if (xs.length : Int) < n then .error 11 else .ok (xs.take n.toNat, xs.drop n.toNat)
def bytesD (xs : List Int) : Except Int (List Int × List Int) :=
 match numD xs with
 | .error e => .error e
 | .ok (u, rest) => rawD u rest
section
variable {P : Program} {w : World}
end
end Go.Proofs.YtcahibbfejomcaaGreatDoor
namespace Go.Proofs.YtcahibbfejomcaaGreatDoor
open Go.RowKit Go.Deep
set_option linter.unusedVariables false
set_option linter.unusedSimpArgs false
set_option maxRecDepth 100000
theorem readK_ge {m : Nat} (h : 2 ≤ m) (xs : List Int) : readK m xs = numD xs := by
 match m, h with
 | n + 2, _ => rfl
theorem allD_succ (n : Nat) (xs : List Int) : allD (n + 1) xs = if xs.length = 0 then .ok [] else match oneDI xs with
  | .error f => .error f
  | .ok (y, r) => match allD n r with
   | .error f => .error f
   | .ok ys => .ok (y :: ys) := rfl
theorem allD_end (n : Nat) {xs : List Int} (h : xs.length = 0) : allD n xs = .ok [] := by
 cases n with
 | zero => unfold allD; rw [if_pos h]
 | succ n => rw [allD_succ, if_pos h]
def decD (xs : List Int) : Except Int (List IN) := if 40960 < xs.length then .error 2 else allD 4096 xs
def sameI : List IN → List IN → Bool
 | [], [] => true
 | y :: ys, z :: zs => (y.op == z.op && y.a == z.a) && sameI ys zs
 | _, _ => false
theorem sameI_at : ∀ {ys zs : List IN} {k : Nat} {y z : IN}, ys[k]? = some y → zs[k]? = some z → sameI (ys.drop k) (zs.drop k) = ((y.op == z.op && y.a == z.a) && sameI (ys.drop (k + 1)) (zs.drop (k + 1)))
 | ys, zs, k, y, z, h1, h2 => by
  obtain ⟨l1, e1⟩ := List.getElem?_eq_some_iff.1 h1
  obtain ⟨l2, e2⟩ := List.getElem?_eq_some_iff.1 h2
  rw [List.drop_eq_getElem_cons l1, List.drop_eq_getElem_cons l2, e1, e2]
  rfl
theorem sameI_refl : ∀ ys : List IN, sameI ys ys = true
 | [] => rfl
 | y :: ys => by rw [sameI, sameI_refl ys]; simp
theorem sameI_eq : ∀ {ys zs : List IN}, sameI ys zs = true → ys = zs
 | [], [], _ => rfl
 | [], z :: zs, h => by cases h
 | y :: ys, [], h => by cases h
 | ⟨yo, ya⟩ :: ys, ⟨zo, za⟩ :: zs, h => by
  rw [sameI, Bool.and_eq_true, Bool.and_eq_true] at h
  obtain ⟨⟨h1, h2⟩, h3⟩ := h
  rw [sameI_eq h3, show yo = zo by simpa using h1, show ya = za by simpa using h2]
theorem fields52 : Tryz.prog.underlying 72 = some (.struct (Tryz.prog.fieldsOf 72)) := by kernel_rfl
theorem held52 : Tryz.prog.stoodInHeld 72 = false := by kernel_rfl
theorem eq_fields2 (d : Nat) (xs ys : Array Value) (f0 f1 : Field) (h0 : f0.name ≠ "_") (h1 : f1.name ≠ "_") (a0 a1 b0 b1 : Value) (w : World) (q0 q1 : Bool)
  (pa0 : (part f0.type xs f0.offset).run Tryz.prog w = .ok a0 w) (pa1 : (part f1.type xs f1.offset).run Tryz.prog w = .ok a1 w)
  (pb0 : (part f0.type ys f0.offset).run Tryz.prog w = .ok b0 w) (pb1 : (part f1.type ys f1.offset).run Tryz.prog w = .ok b1 w)
  (e0 : (Op.equalIn d f0.type a0 b0).run Tryz.prog w = .ok q0 w) (e1 : (Op.equalIn d f1.type a1 b1).run Tryz.prog w = .ok q1 w) :
  (Op.eqFields d xs ys [f0, f1]).run Tryz.prog w = .ok (q0 && q1) w := by
 simp only [Op.eqFields, if_pos h0, if_pos h1, Sem.run_bind, pa0, pb0, e0, Result.andThen_ok]
 cases q0
 ·simp [Sem.run_pure]
 ·simp only [Bool.not_true, Bool.false_eq_true, if_false, Sem.run_bind, pa1, pb1, e1, Result.andThen_ok]
  cases q1 <;> simp [Sem.run_pure]
theorem run_eq52 (w : World) (a b c d : Int) : (Op.equalIn 10000 72 (.agg #[.int .i64 a, .int .i64 b]) (.agg #[.int .i64 c, .int .i64 d])).run Tryz.prog w = .ok (a == c && b == d) w := by
 rw [run_equalIn_struct w 9999 72 _ _ fields52 held52]
 simp only [Program.fieldsOf, Tryz.underlying72]
 exact eq_fields2 9999 _ _ _ _ (by decide) (by decide) _ _ _ _ w _ _ (by simp [part, Tryz.isAgg3]) (by simp [part, Tryz.isAgg3]) (by simp [part, Tryz.isAgg3]) (by simp [part, Tryz.isAgg3])
  (run_equalIn_int w 9998 3 .i64 .i64 _ _ Tryz.underlying3) (run_equalIn_int w 9998 3 .i64 .i64 _ _ Tryz.underlying3)
theorem run_neq52 (w : World) (a b c d : Int) : (binOp .neq 72 (.agg #[.int .i64 a, .int .i64 b]) (.agg #[.int .i64 c, .int .i64 d])).run Tryz.prog w = .ok (.bool (!(a == c && b == d))) w := by
 rw [run_neq_struct, run_eq52]
 rfl
end Go.Proofs.YtcahibbfejomcaaGreatDoor

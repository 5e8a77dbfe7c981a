/-
  Qde: Qd, Qe.
-/
import Derived.Test.YtnjhnlohjhdcpabMb
import Derived.Test.YtnjhnlohjhdcpabQc
import Derived.Test.YtnjhnlohjhdcpabGrw
import Derived.Deep.RegionHeld3
namespace Go.Proofs.Ytnjhnlohjhdcpab
open Go.RowKit
set_option linter.unusedVariables false
set_option linter.unusedSimpArgs false

end Go.Proofs.Ytnjhnlohjhdcpab

namespace Go.Proofs.Ytnjhnlohjhdcpab
open Go.ChangeShapes Go.WideShapes Go.ChangeAt Go.RowKit Go.Deep
set_option linter.unusedVariables false
set_option linter.unusedSimpArgs false
set_option maxRecDepth 100000

/-- A function's bytes; the bytes ahead of them; all. -/
def fnB (f : FN) : List Int := Mth.form f.a ++ Mth.form f.l ++ Mth.form f.r ++ (Mth.form (encB f.code).length ++ encB f.code)
def headB (p : PG) : List Int := Mth.form 2 ++ Mth.form p.mem ++ (Mth.form p.data.length ++ p.data) ++ Mth.form p.fns.length
def bytesP (p : PG) : List Int := headB p ++ p.fns.flatMap fnB
def encPE (p : PG) : Int := if checkP p = 0 then (if 1048576 < (bytesP p).length then 2 else 0) else checkP p
/-- What Encode leaves. -/
def EncPR (p : PG) (w : World) (e : Ending) (w' : World) : Prop :=
  Kept (fun _ => False) w w' ∧
  if encPE p = 0 then ∃ v', e = .returned (.tuple #[v', .int .i64 0]) ∧ w'.ownsRow w.heap.size 5 1 v' (bytesP p).length ((bytesP p).map (Value.int .u8))
  else e = .returned (.tuple #[.slice none 0 0, .int .i64 (encPE p)])

/-- A number as an item; bytes as an item. -/
def itN (n : Int) : ItV := ⟨1, n, .slice none 0 0, []⟩
def itB (bv : Value) (xs : List Int) : ItV := ⟨4, 0, bv, xs⟩
theorem okN (w : World) (n : Int) (h0 : -9223372036854775808 ≤ n) (h1 : n < 9223372036854775808) : ItOk w (itN n) := ⟨show (1 : Int) ≤ 1 by decide, show (1 : Int) ≤ 6 by decide, h0, h1, .inl ⟨rfl, none, 0, rfl⟩, fun y hy => by simp [itN] at hy, by simp [itN]⟩
theorem okB (w : World) (bv : Value) (xs : List Int) (h : IsB w bv xs) (hx : ∀ y ∈ xs, 0 ≤ y ∧ y ≤ 255) (hl : xs.length ≤ 65536) : ItOk w (itB bv xs) := ⟨show (1 : Int) ≤ 4 by decide, show (4 : Int) ≤ 6 by decide, show (-9223372036854775808 : Int) ≤ 0 by decide, show (0 : Int) < 9223372036854775808 by decide, h, hx, hl⟩
section
variable {P : Program} {ops : Array Oper} {o : Oper} {a : Act} {w : World} {K : Act → World → Prop} {Q : Exit → Act → World → Prop} {E : Prop}
theorem stp_app (hgd : o.guard = none) (s x : Operand) (t u : TypeId) (ho : o.op = .call { callee := .builtin .append, args := #[s, x], argTypes := #[t, u] }) (v bv : Value) (hs : a.eval s = v) (hx : a.eval x = bv) (v' : Value) (w' : World)
    (hr : (Builtin.append_ #[t, u] o.type #[v, bv]).run P w = .ok v' w') (h : K (a.put o.dst v') w') : if Region.wanted o (yielded ops a.tmps) = true then Oper.wp P o a w K Q else E := by
  have hw : Region.wanted o (yielded ops a.tmps) = true := by simp [Region.wanted, hgd]
  rw [if_pos hw]
  unfold Oper.wp execOp
  simp only [ho, resolve, invoke, builtin, Sem.run_bind, Sem.run_pure, Result.andThen_ok, List.map_toArray, List.map_cons, List.map_nil, hs, hx, hr]
  exact h
end
theorem item_num (l : List Int) (n : Int) (h0 : 0 ≤ n) (h1 : n < 9223372036854775808) (hl : l.length ≤ 4194000) : St.item (.ok l) 1 n [] = .ok (l ++ Mth.form n) := num_ok l n h0 h1 hl
theorem item_byt (l xs : List Int) (hx : xs.length ≤ 65536) (hl : l.length ≤ 4000000) : St.item (.ok l) 4 0 xs = .ok (l ++ (Mth.form xs.length ++ xs)) := by
  have := (Mth.form_length (xs.length : Int) (by omega)).2
  show St.put (.ok l) (Mth.form xs.length ++ xs) = _
  rw [put_ok _ _ (by rw [List.length_append]; omega)]
theorem run_fn {its : List ItV} {l : List Int} (f : FN) (bv : Value) (h : run its = .ok l) (hl : l.length ≤ 3900000) (ha : 0 ≤ f.a ∧ f.a ≤ 16) (hll : 0 ≤ f.l ∧ f.l ≤ 64) (hr : 0 ≤ f.r ∧ f.r ≤ 1) (hb : (encB f.code).length ≤ 40960) :
    run (its ++ [itN f.a, itN f.l, itN f.r, itB bv (encB f.code)]) = .ok (l ++ fnB f) := by
  have l1 := (Mth.form_length f.a (by omega)).2
  have l2 := (Mth.form_length f.l (by omega)).2
  have l3 := (Mth.form_length f.r (by omega)).2
  rw [show its ++ [itN f.a, itN f.l, itN f.r, itB bv (encB f.code)] = (((its ++ [itN f.a]) ++ [itN f.l]) ++ [itN f.r]) ++ [itB bv (encB f.code)] by simp, run_snoc, run_snoc, run_snoc, run_snoc, h]
  show St.item (St.item (St.item (St.item (.ok l) 1 f.a []) 1 f.l []) 1 f.r []) 4 0 (encB f.code) = _
  rw [item_num l f.a ha.1 (by omega) (by omega), item_num _ f.l hll.1 (by omega) (by rw [List.length_append]; omega), item_num _ f.r hr.1 (by omega) (by rw [List.length_append, List.length_append]; omega), item_byt _ _ (by omega) (by rw [List.length_append, List.length_append, List.length_append]; omega)]
  simp [fnB]
theorem run_head (p : PG) (dv : Value) (hm : 0 ≤ p.mem ∧ p.mem ≤ 65536) (hd : p.data.length ≤ 65536) (hf : p.fns.length ≤ 64) : run [itN 2, itN p.mem, itB dv p.data, itN p.fns.length] = .ok (headB p) ∧ (headB p).length ≤ 65600 := by
  have l0 := (Mth.form_length 2 (by omega)).2
  have l1 := (Mth.form_length p.mem (by omega)).2
  have l2 := (Mth.form_length (p.data.length : Int) (by omega)).2
  have l3 := (Mth.form_length (p.fns.length : Int) (by omega)).2
  constructor
  · show St.item (St.item (St.item (St.item (.ok []) 1 2 []) 1 p.mem []) 4 0 p.data) 1 p.fns.length [] = _
    rw [item_num [] 2 (by omega) (by omega) (by simp), item_num _ p.mem hm.1 (by omega) (by rw [List.length_append]; simp; omega), item_byt _ _ hd (by rw [List.length_append, List.length_append]; simp; omega), item_num _ _ (by omega) (by omega) (by simp only [List.length_append, List.length_nil]; omega)]
    simp [headB]
  · simp only [headB, List.length_append]; omega
theorem fnB_len {f : FN} (ha : 0 ≤ f.a ∧ f.a ≤ 16) (hll : 0 ≤ f.l ∧ f.l ≤ 64) (hr : 0 ≤ f.r ∧ f.r ≤ 1) (hb : (encB f.code).length ≤ 40960) : (fnB f).length ≤ 41000 := by
  have l1 := (Mth.form_length f.a (by omega)).2
  have l2 := (Mth.form_length f.l (by omega)).2
  have l3 := (Mth.form_length f.r (by omega)).2
  have l4 := (Mth.form_length ((encB f.code).length : Int) (by omega)).2
  simp only [fnB, List.length_append]; omega
theorem flat_len (its : List ItV) : (its.flatMap ItV.cells).length = its.length * 3 := by
  induction its with
  | nil => rfl
  | cons x l ih => rw [List.flatMap_cons, List.length_append, ih, List.length_cons]; simp [ItV.cells]; omega
theorem cells_one {new : List ItV} (h : ∀ x ∈ new, x.bv.oneCell' = true) : ∀ u ∈ new.flatMap ItV.cells, u.oneCell' = true := fun u hu => by
  obtain ⟨x, hx, hu⟩ := List.mem_flatMap.1 hu
  simp [ItV.cells] at hu
  rcases hu with rfl | rfl | rfl
  · rfl
  · rfl
  · exact h x hx
end Go.Proofs.Ytnjhnlohjhdcpab

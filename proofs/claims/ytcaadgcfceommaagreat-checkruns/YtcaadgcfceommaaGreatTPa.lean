import Derived.Test.YtcaadgcfceommaaGreatTOe
import Derived.Test.YtcaadgcfceommaaGreatTMc
import Derived.Lib.SmallJoins
import Derived.Great.BuildSlice
import Derived.Laws.StructEq
import Derived.Laws.OwnMore
namespace Go.Proofs.YtcaadgcfceommaaGreat
open Go.RowKit Go.Deep
set_option linter.unusedVariables false
set_option linter.unusedSimpArgs false
set_option maxRecDepth 100000
theorem size52 : (Tryz.prog.info? 64).map (·.size) = some 2 := by kernel_rfl
theorem Tryz.info64 : (Tryz.prog.info? 64).map (fun i => (i.zero, i.size, i.bytes)) = some (some (.agg #[.int .i64 0, .int .i64 0]), 2, 16) := by kernel_rfl
theorem wp_app2 {w : World} {ops : Array Oper} {rest : List Oper} {o : Oper} {a : Act} {Q : Exit → Act → World → Prop} (hgd : o.guard = none) (s x : Operand) (t u : TypeId)
  (ho : o.op = .call { callee := .builtin .append, args := #[s, x], argTypes := #[t, u] }) (v bv : Value) (hs : a.eval s = v) (hx : a.eval x = bv) (v' : Value) (w' : World)
  (hr : (Builtin.append_ #[t, u] o.type #[v, bv]).run Tryz.prog w = .ok v' w') (h : wpList Tryz.prog ops Q rest (a.put o.dst v') w') : wpList Tryz.prog ops Q (o :: rest) a w := by
 refine wpList_plain hgd fun K hK => ?_
 unfold Oper.wp execOp
 simp only [ho, resolve, invoke, builtin, Sem.run_bind, Sem.run_pure, Result.andThen_ok, List.map_toArray, List.map_cons, List.map_nil, hs, hx, hr]
 exact hK _ _ h
def sameI : List IN → List IN → Bool
 | [], [] => true
 | y :: ys, z :: zs => (y.op == z.op && y.a == z.a) && sameI ys zs
 | _, _ => false
theorem sameI_at : ∀ {ys zs : List IN} {k : Nat} {y z : IN}, ys[k]? = some y → zs[k]? = some z → sameI (ys.drop k) (zs.drop k) = ((y.op == z.op && y.a == z.a) && sameI (ys.drop (k + 1)) (zs.drop (k + 1)))
 | ys, zs, k, y, z, h1, h2 => by
  obtain ⟨l1, e1⟩ := List.getElem?_eq_some_iff.1 h1
  obtain ⟨l2, e2⟩ := List.getElem?_eq_some_iff.1 h2
  rw [List.drop_eq_getElem_cons l1, List.drop_eq_getElem_cons l2, e1, e2]
  rfl
theorem sameI_refl : ∀ ys : List IN, sameI ys ys = true
 | [] => rfl
 | y :: ys => by rw [sameI, sameI_refl ys]; simp
theorem fields52 : Tryz.prog.underlying 64 = some (.struct (Tryz.prog.fieldsOf 64)) := by kernel_rfl
theorem held52 : Tryz.prog.stoodInHeld 64 = false := by kernel_rfl
theorem eq_fields2 (d : Nat) (xs ys : Array Value) (f0 f1 : Field) (h0 : f0.name ≠ "_") (h1 : f1.name ≠ "_") (a0 a1 b0 b1 : Value) (w : World) (q0 q1 : Bool)
  (pa0 : (part f0.type xs f0.offset).run Tryz.prog w = .ok a0 w) (pa1 : (part f1.type xs f1.offset).run Tryz.prog w = .ok a1 w)
  (pb0 : (part f0.type ys f0.offset).run Tryz.prog w = .ok b0 w) (pb1 : (part f1.type ys f1.offset).run Tryz.prog w = .ok b1 w)
  (e0 : (Op.equalIn d f0.type a0 b0).run Tryz.prog w = .ok q0 w) (e1 : (Op.equalIn d f1.type a1 b1).run Tryz.prog w = .ok q1 w) :
  (Op.eqFields d xs ys [f0, f1]).run Tryz.prog w = .ok (q0 && q1) w := by
 simp only [Op.eqFields, if_pos h0, if_pos h1, Sem.run_bind, pa0, pb0, e0, Result.andThen_ok]
 cases q0
 ·simp [Sem.run_pure]
 ·simp only [Bool.not_true, Bool.false_eq_true, if_false, Sem.run_bind, pa1, pb1, e1, Result.andThen_ok]
  cases q1 <;> simp [Sem.run_pure]
theorem run_eq52 (w : World) (a b c d : Int) : (Op.equalIn 10000 64 (.agg #[.int .i64 a, .int .i64 b]) (.agg #[.int .i64 c, .int .i64 d])).run Tryz.prog w = .ok (a == c && b == d) w := by
 rw [run_equalIn_struct w 9999 64 _ _ fields52 held52]
 simp only [Program.fieldsOf, Tryz.underlying64]
 exact eq_fields2 9999 _ _ _ _ (by decide) (by decide) _ _ _ _ w _ _ (by simp [part, Tryz.isAgg3]) (by simp [part, Tryz.isAgg3]) (by simp [part, Tryz.isAgg3]) (by simp [part, Tryz.isAgg3])
  (run_equalIn_int w 9998 3 .i64 .i64 _ _ Tryz.underlying3) (run_equalIn_int w 9998 3 .i64 .i64 _ _ Tryz.underlying3)
theorem run_neq52 (w : World) (a b c d : Int) : (binOp .neq 64 (.agg #[.int .i64 a, .int .i64 b]) (.agg #[.int .i64 c, .int .i64 d])).run Tryz.prog w = .ok (.bool (!(a == c && b == d))) w := by
 rw [run_neq_struct, run_eq52]
 rfl
open Go.RowKit
structure FN where
 a : Int
 l : Int
 r : Int
 code : List IN
structure PG where
 mem : Int
 data : List Int
 fns : List FN
structure FN.Ok (f : FN) : Prop where
 a : -9223372036854775808 ≤ f.a ∧ f.a < 9223372036854775808
 l : -9223372036854775808 ≤ f.l ∧ f.l < 9223372036854775808
 r : -9223372036854775808 ≤ f.r ∧ f.r < 9223372036854775808
 code : ∀ y ∈ f.code, y.Ok
 len : f.code.length * 16 ≤ 140737488351232
structure PG.Ok (p : PG) : Prop where
 mem : -9223372036854775808 ≤ p.mem ∧ p.mem < 9223372036854775808
 data : BytesOk p.data
 fns : ∀ f ∈ p.fns, f.Ok
 len : p.fns.length * 48 ≤ 140737488351232
def FN.cells (f : FN) (cv : Value) : List Value := [.int .i64 f.a, .int .i64 f.l, .int .i64 f.r, cv]
def FnAt (w : World) (B g o : Nat) (f : FN) : Prop := ∃ cv, w.rangeAt g o (f.cells cv) ∧ RowI w cv f.code ∧ ∀ q, cv.ownBlock = some q → 0 < f.code.length → q < B
def RowF (w : World) (B : Nat) (v : Value) (fs : List FN) : Prop :=
 (fs = [] ∧ ∃ ao c, v = .slice ao 0 c) ∨ ∃ g o c, v = .slice (some ⟨g, o, none⟩) fs.length c ∧ g < B ∧ ∀ i f, fs[i]? = some f → FnAt w B g (o + i * 4) f
def PgIs (w : World) (B : Nat) (v : Value) (p : PG) : Prop :=
 ∃ dv fv, v = .agg #[.int .i64 p.mem, dv, fv] ∧ IsB w dv p.data ∧ (∀ q, dv.ownBlock = some q → q < B) ∧ RowF w B fv p.fns
theorem RowI.keptB {S : Nat → Prop} {w w' : World} {v : Value} {ys : List IN} (h : RowI w v ys) (hk : Kept S w w') (hS : ∀ g, v.ownBlock = some g → 0 < ys.length → ¬ S g) : RowI w' v ys := by
 by_cases h0 : 0 < ys.length
 ·exact h.kept hk (fun g hg => hS g hg h0)
 ·have e : ys = [] := List.length_eq_zero_iff.1 (by omega)
  subst e
  obtain ⟨ao, c, rfl⟩ := h.shape
  exact .inl ⟨rfl, ao, c, rfl⟩
theorem FnAt.kept {S : Nat → Prop} {w w' : World} {B g o : Nat} {f : FN} (h : FnAt w B g o f) (hk : Kept S w w') (hg : g < B) (hS : ∀ q, q < B → ¬ S q) : FnAt w' B g o f := by
 obtain ⟨cv, h1, h2, h3⟩ := h
 exact ⟨cv, fun j v hj => hk.cell (h1 j v hj) (hS g hg), h2.keptB hk (fun q hq h0 => hS q (h3 q hq h0)), h3⟩
theorem RowF.kept {S : Nat → Prop} {w w' : World} {B : Nat} {v : Value} {fs : List FN} (h : RowF w B v fs) (hk : Kept S w w') (hS : ∀ q, q < B → ¬ S q) : RowF w' B v fs := by
 rcases h with h | ⟨g, o, c, e, hg, h⟩
 ·exact .inl h
 ·exact .inr ⟨g, o, c, e, hg, fun i f hf => (h i f hf).kept hk hg hS⟩
theorem RowF.shape {w : World} {B : Nat} {v : Value} {fs : List FN} (h : RowF w B v fs) : ∃ ao c, v = .slice ao fs.length c := by
 rcases h with ⟨rfl, ao, c, rfl⟩ | ⟨g, o, c, rfl, _⟩
 ·exact ⟨ao, c, rfl⟩
 ·exact ⟨_, c, rfl⟩
theorem RowF.at {w : World} {B : Nat} {ao : Option Addr} {n c : Nat} {fs : List FN} (h : RowF w B (.slice ao n c) fs) {i : Nat} (hi : i < fs.length) : ∃ g o f, ao = some ⟨g, o, none⟩ ∧ g < B ∧ fs[i]? = some f ∧ FnAt w B g (o + i * 4) f := by
 rcases h with ⟨e, _⟩ | ⟨g, o, c', e, hg, h⟩
 ·rw [e] at hi; simp at hi
 ·cases e
  exact ⟨g, o, fs[i], rfl, hg, List.getElem?_eq_getElem hi, h i _ (List.getElem?_eq_getElem hi)⟩
theorem PgIs.kept {S : Nat → Prop} {w w' : World} {B : Nat} {v : Value} {p : PG} (h : PgIs w B v p) (hk : Kept S w w') (hS : ∀ q, q < B → ¬ S q) : PgIs w' B v p := by
 obtain ⟨dv, fv, e, h1, h2, h3⟩ := h
 exact ⟨dv, fv, e, h1.kept hk (fun q hq => hS q (h2 q hq)), h2, h3.kept hk hS⟩
def badF (f : FN) : Bool := decide (f.a < 0 ∨ 16 < f.a ∨ f.l < f.a ∨ 64 < f.l ∨ f.r < 0 ∨ 1 < f.r ∨ f.code.length < 1 ∨ 4096 < f.code.length)
def errF (f : FN) : Int := if badF f = true then 121 else encE f.code
def firstF : List FN → Int
 | [] => 0
 | f :: fs => if errF f = 0 then firstF fs else errF f
def badP (p : PG) : Bool := decide (p.mem < 0 ∨ 65536 < p.mem ∨ p.mem < p.data.length ∨ p.fns.length < 1 ∨ 64 < p.fns.length)
def checkP (p : PG) : Int := if badP p = true then 121 else firstF p.fns
theorem firstF_bad : ∀ (fs : List FN) (i : Nat) (f : FN), (∀ x ∈ fs.take i, errF x = 0) → fs[i]? = some f → errF f ≠ 0 → firstF fs = errF f
 | [], i, f, _, h, _ => by simp at h
 | g :: fs, 0, f, _, h, hf => by
  have e : g = f := by simpa using h
  subst e
  rw [firstF, if_neg hf]
 | g :: fs, i + 1, f, ht, h, hf => by
  have h0 : errF g = 0 := ht g (by simp)
  rw [firstF, if_pos h0]
  exact firstF_bad fs i f (fun x hx => ht x (by simp [hx])) (by simpa using h) hf
theorem firstF_good : ∀ (fs : List FN), (∀ x ∈ fs, errF x = 0) → firstF fs = 0
 | [], _ => rfl
 | g :: fs, h => by rw [firstF, if_pos (h g (by simp))]; exact firstF_good fs (fun x hx => h x (by simp [hx]))
theorem firstF_zero : ∀ (fs : List FN), firstF fs = 0 → ∀ x ∈ fs, errF x = 0
 | [], _, x, hx => by simp at hx
 | g :: fs, h, x, hx => by
  rw [firstF] at h
  by_cases h0 : errF g = 0
  ·rw [if_pos h0] at h
   rcases List.mem_cons.1 hx with rfl | hx
   ·exact h0
   ·exact firstF_zero fs h x hx
  ·rw [if_neg h0] at h; exact absurd h h0
theorem take_good {fs : List FN} {i : Nat} {f : FN} (h : ∀ x ∈ fs.take i, errF x = 0) (hf : fs[i]? = some f) (h0 : errF f = 0) : ∀ x ∈ fs.take (i + 1), errF x = 0 := by
 intro x hx
 rw [List.take_add_one, hf] at hx
 rcases List.mem_append.1 hx with hx | hx
 ·exact h x hx
 ·have : x = f := by simpa using hx
  rw [this]; exact h0
theorem fn_read {w : World} {B g o : Nat} {f : FN} (h : FnAt w B g o f) : ∃ ao c, w.cell? ⟨g, o, none⟩ = some (.int .i64 f.a) ∧ w.cell? ⟨g, o + 1, none⟩ = some (.int .i64 f.l) ∧ w.cell? ⟨g, o + 2, none⟩ = some (.int .i64 f.r) ∧ w.cell? ⟨g, o + 3, none⟩ = some (.slice ao f.code.length c) ∧ RowI w (.slice ao f.code.length c) f.code ∧ ∀ q, (Value.slice ao f.code.length c).ownBlock = some q → 0 < f.code.length → q < B := by
 obtain ⟨cv, h1, h2, h3⟩ := h
 obtain ⟨ao, c, rfl⟩ := h2.shape
 exact ⟨ao, c, h1 0 _ rfl, h1 1 _ rfl, h1 2 _ rfl, h1 3 _ rfl, h2, h3⟩
theorem bad_cases (p : PG) : (p.mem < 0 ∨ (0 ≤ p.mem ∧ 65536 < p.mem) ∨ (0 ≤ p.mem ∧ p.mem ≤ 65536 ∧ p.mem < p.data.length) ∨ (0 ≤ p.mem ∧ p.mem ≤ 65536 ∧ p.data.length ≤ p.mem ∧ p.fns.length < 1) ∨ (0 ≤ p.mem ∧ p.mem ≤ 65536 ∧ p.data.length ≤ p.mem ∧ 1 ≤ p.fns.length ∧ 64 < p.fns.length)) ∧ badP p = true ∨ (0 ≤ p.mem ∧ p.mem ≤ 65536 ∧ p.data.length ≤ p.mem ∧ 1 ≤ p.fns.length ∧ p.fns.length ≤ 64) ∧ badP p = false := by
 unfold badP
 by_cases h : p.mem < 0 ∨ 65536 < p.mem ∨ p.mem < p.data.length ∨ p.fns.length < 1 ∨ 64 < p.fns.length
 ·left
  exact ⟨by omega, by simpa using h⟩
 ·right
  exact ⟨by omega, by simpa using h⟩
theorem badF_cases (f : FN) : (f.a < 0 ∨ (0 ≤ f.a ∧ 16 < f.a) ∨ (0 ≤ f.a ∧ f.a ≤ 16 ∧ f.l < f.a) ∨ (0 ≤ f.a ∧ f.a ≤ 16 ∧ f.a ≤ f.l ∧ 64 < f.l) ∨ (0 ≤ f.a ∧ f.a ≤ 16 ∧ f.a ≤ f.l ∧ f.l ≤ 64 ∧ f.r < 0) ∨ (0 ≤ f.a ∧ f.a ≤ 16 ∧ f.a ≤ f.l ∧ f.l ≤ 64 ∧ 0 ≤ f.r ∧ 1 < f.r) ∨ (0 ≤ f.a ∧ f.a ≤ 16 ∧ f.a ≤ f.l ∧ f.l ≤ 64 ∧ 0 ≤ f.r ∧ f.r ≤ 1 ∧ f.code.length < 1) ∨ (0 ≤ f.a ∧ f.a ≤ 16 ∧ f.a ≤ f.l ∧ f.l ≤ 64 ∧ 0 ≤ f.r ∧ f.r ≤ 1 ∧ 1 ≤ f.code.length ∧ 4096 < f.code.length)) ∧ errF f = 121 ∨
  (0 ≤ f.a ∧ f.a ≤ 16 ∧ f.a ≤ f.l ∧ f.l ≤ 64 ∧ 0 ≤ f.r ∧ f.r ≤ 1 ∧ 1 ≤ f.code.length ∧ f.code.length ≤ 4096) ∧ errF f = encE f.code := by
 unfold errF badF
 by_cases h : f.a < 0 ∨ 16 < f.a ∨ f.l < f.a ∨ 64 < f.l ∨ f.r < 0 ∨ 1 < f.r ∨ f.code.length < 1 ∨ 4096 < f.code.length
 ·left
  refine ⟨by omega, ?_⟩
  rw [if_pos (by simpa using h)]
 ·right
  refine ⟨by omega, ?_⟩
  rw [if_neg (by simpa using h)]
section
variable {P : Program} (w : World)
theorem append_old (base : Nat) (t ty e : TypeId) (i : TypeInfo) (z : Value) (size bytes : Nat) (ht : P.underlying t = some (.slice e)) (hi : P.info? e = some i) (hz : i.zero = some z)
  (hsize : i.size = size) (hby : i.bytes = bytes) (hzs : z.cells.size = size) (hsz : 0 < size)
  (v : Value) (n : Nat) (xs : List Value) (hown : w.ownsRow base e size v n xs)
  (a : Addr) (m c : Nat) (news : List Value) (hl : news.length = m * size) (hnews : ∀ j u, news[j]? = some u → w.cell? (a.add j) = some u) (h1 : ∀ u ∈ news, u.oneCell' = true)
  (h63 : n + m ≤ maxLen) (hbytes : (n + m) * bytes ≤ 140737488355328) (hbase : base ≤ w.heap.size) :
  ∃ v' w', (Builtin.append_ #[t, t] ty #[v, .slice (some a) m c]).run P w = .ok v' w' ∧ w'.ownsRow base e size v' (n + m) (xs ++ news) ∧ w.grownBy w' v.ownBlock ∧
   (v'.ownBlock = v.ownBlock ∨ v'.ownBlock = some w.heap.size) ∧ (∀ g, v.ownBlock = some g → ∀ j u, xs[j]? = some u → w'.cell? ⟨g, j, none⟩ = some u) := by
 obtain ⟨v', w', hr, h2, h3, h4, h5⟩ := run_append_own_at (P := P) w base t ty e i z size bytes ht hi hz hsize hby hzs hsz v n xs hown a m c news hl hnews h1 h63 hbytes hbase
 refine ⟨v', w', hr, h2, h3, h5, fun g hg j u hu => ?_⟩
 subst hsize
 subst hby
 rcases hown.2 with ⟨rfl, rfl⟩ | ⟨g', cap, cur, rfl, hbg, hgg, hnc, hcm, hcs, htake⟩
 ·cases hg
 ·have eg : g' = g := Option.some.inj hg
  subst eg
  by_cases hroom : n + m ≤ cap
  ·have hfit : n * i.size + news.length ≤ cur.size := by rw [hl, hcs, ← Nat.add_mul]; exact Nat.mul_le_mul_right _ hroom
   have hr' := run_append_room (P := P) w t ty e i ht hi g' n cap cur hgg a m c news hl hnews h1 hroom hfit
   rw [hr'] at hr
   cases hr
   have := h2.cells (g := g') rfl j u (by rw [List.getElem?_append_left (List.getElem?_eq_some_iff.1 hu).1]; exact hu)
   rw [Addr.add_lit, Nat.zero_add] at this
   exact this
  ·have holds : ∀ j u, xs[j]? = some u → w.cell? ((⟨g', 0, none⟩ : Addr).add j) = some u := hown.cells (g := g') rfl
   have hr' := run_append_grow (P := P) w t ty e i z ht hi hz ⟨g', 0, none⟩ n cap xs hown.1 holds a m c news hl hnews (by omega) (by simp only [maxLen] at h63; omega) (growslice_fits (by omega) hbytes)
   rw [hr'] at hr
   cases hr
   have hq := holds j u hu
   rw [Addr.add_lit, Nat.zero_add] at hq
   have hlt := World.block_lt_of_cell? w _ hq
   rw [World.cell?_of_block (w := w) (show (w.drew.alloc _).heap[g']? = w.heap[g']? from Below.heap_alloc w.drew _ _ hlt)]
   exact hq
end
theorem own_mono {w : World} {B B' e s : Nat} {v : Value} {m : Nat} {l : List Value} (h : w.ownsRow B' e s v m l) (hB : B ≤ B') : w.ownsRow B e s v m l :=
 ⟨h.1, h.2.imp id fun ⟨g, c, cur, a, b, r⟩ => ⟨g, c, cur, a, Nat.le_trans hB b, r⟩⟩
section
variable {e et s : Nat} {mk an : Nat → Nat → List Value}
theorem own_at {w : World} {B : Nat} {v : Value} {n : Nat} {xs : List Value} (h : w.ownsRow B e s v n xs) (hn : 0 < n) : ∃ g c, v = .slice (some ⟨g, 0, none⟩) n c := by
 rcases h.2 with ⟨_, h0⟩ | ⟨g, cap, cur, e, _⟩
 ·omega
 ·exact ⟨g, cap, e⟩
end
open Go.ChangeShapes Go.WideShapes Go.ChangeAt Go.RowKit Go.Deep
theorem within_p (n a b : Int) (w : World) (q : Bool) (hq : q = (decide (a ≤ n) && decide (n ≤ b))) : Calls Tryz.prog 109 #[.int .i64 n, .int .i64 a, .int .i64 b] w fun e w' => e = .returned (.bool q) ∧ w' = w := by
 subst hq
 by_cases h : a ≤ n
 ·by_cases h2 : n ≤ b
  ·rw [decide_eq_true h, decide_eq_true h2]
   go_enter Tryz.func109, Tryz.ntmps109
   go_wp2
   go_ret
   exact ⟨rfl, rfl⟩
  ·rw [decide_eq_true h, decide_eq_false h2]
   have hd : decide (n ≤ b) = false := decide_eq_false h2
   go_enter Tryz.func109, Tryz.ntmps109
   go_wp2
   go_ret
   exact ⟨rfl, rfl⟩
 ·rw [decide_eq_false h]
  have hd : decide (a ≤ n) = false := decide_eq_false h
  go_enter Tryz.func109, Tryz.ntmps109
  go_wp2
  go_ret
  exact ⟨rfl, rfl⟩
set_option maxHeartbeats 4000000 in
theorem whole_p (mem : Int) (dao : Option Addr) (nd dc : Nat) (fao : Option Addr) (nf fc : Nat) (w : World) (p : PG) (hm : mem = p.mem) (hnd : nd = p.data.length) (hnf : nf = p.fns.length) :
  Calls Tryz.prog 100 #[.agg #[.int .i64 mem, .slice dao nd dc, .slice fao nf fc]] w fun e w' => e = .returned (.bool (!badP p)) ∧ KF w w' := by
 have hkA : KF w (w.alloc (.cells #[.int .i64 mem, .slice dao nd dc, .slice fao nf fc] 25)) := (Kept.refl _ _).alloc _
 have hbA := heap_alloc_new w (.cells #[.int .i64 mem, .slice dao nd dc, .slice fao nf fc] 25)
 have c0 := cell_block _ w.heap.size 0 _ _ _ hbA
 have c1 := cell_block _ w.heap.size 1 _ _ _ hbA
 have c2 := cell_block _ w.heap.size 2 _ _ _ hbA
 have HKA := hid_of hkA
 obtain ⟨b1, hb1⟩ := nmd ((decide ((0 : Int) ≤ mem) && decide (mem ≤ 65536)))
 obtain ⟨b3, hb3⟩ := nmd ((decide ((1 : Int) ≤ (nf : Int)) && decide ((nf : Int) ≤ 64)))
 have W1 := hid_of (fun W => within_p mem 0 65536 W b1 hb1)
 have W3 := hid_of (fun W => within_p (nf : Int) 1 64 W b3 hb3)
 have hbad : (!badP p) = (b1 && (decide ((nd : Int) ≤ mem) && b3)) := by
  rw [hb1, hb3, Bool.eq_iff_iff]
  unfold badP
  simp only [Bool.not_eq_true', decide_eq_false_iff_not, Bool.and_eq_true, decide_eq_true_eq]
  rw [hm, hnd, hnf]
  omega
 rw [hbad]
 clear hkA hbA hm hnd hnf hb1 hb3 hbad
 cases b1
 ·go_enter Tryz.func100, Tryz.ntmps100
  go_wp2_with fail
  refine (W1.out _).mono ?_
  rintro e w' ⟨rfl, rfl⟩
  go_wp2
  go_ret
  exact ⟨rfl, HKA.out⟩
 ·by_cases hd : (nd : Int) ≤ mem
  ·rw [decide_eq_true hd]
   cases b3
   all_goals
    go_enter Tryz.func100, Tryz.ntmps100
    go_wp2_with fail
    refine (W1.out _).mono ?_
    rintro e w' ⟨rfl, rfl⟩
    go_wp2_with fail
    refine (W3.out _).mono ?_
    rintro e w' ⟨rfl, rfl⟩
    go_wp2
    go_ret
    exact ⟨rfl, HKA.out⟩
  ·have hdf : decide ((nd : Int) ≤ mem) = false := decide_eq_false hd
   rw [hdf]
   go_enter Tryz.func100, Tryz.ntmps100
   go_wp2_with fail
   refine (W1.out _).mono ?_
   rintro e w' ⟨rfl, rfl⟩
   go_wp2
   go_ret
   exact ⟨rfl, HKA.out⟩
set_option maxHeartbeats 4000000 in
theorem hmay_p (fa fl fr : Int) (cao : Option Addr) (nc cc : Nat) (w : World) (f : FN) (h1 : fa = f.a) (h2 : fl = f.l) (h3 : fr = f.r) (h4 : nc = f.code.length) :
  Calls Tryz.prog 101 #[.agg #[.int .i64 fa, .int .i64 fl, .int .i64 fr, .slice cao nc cc]] w fun e w' => e = .returned (.bool (!badF f)) ∧ KF w w' := by
 have hkB : KF w (w.alloc (.cells #[.int .i64 fa, .int .i64 fl, .int .i64 fr, .slice cao nc cc] 56)) := (Kept.refl _ _).alloc _
 have hbB := heap_alloc_new w (.cells #[.int .i64 fa, .int .i64 fl, .int .i64 fr, .slice cao nc cc] 56)
 have y0 := cell_block _ w.heap.size 0 _ _ _ hbB
 have y1 := cell_block _ w.heap.size 1 _ _ _ hbB
 have y2 := cell_block _ w.heap.size 2 _ _ _ hbB
 have y3 := cell_block _ w.heap.size 3 _ _ _ hbB
 have HKB := hid_of hkB
 obtain ⟨b1, hb1⟩ := nmd ((decide ((0 : Int) ≤ fa) && decide (fa ≤ 16)))
 obtain ⟨b2, hb2⟩ := nmd ((decide (fa ≤ fl) && decide (fl ≤ 64)))
 obtain ⟨b3, hb3⟩ := nmd ((decide ((0 : Int) ≤ fr) && decide (fr ≤ 1)))
 obtain ⟨b4, hb4⟩ := nmd ((decide ((1 : Int) ≤ (nc : Int)) && decide ((nc : Int) ≤ 4096)))
 have W1 := hid_of (fun W => within_p fa 0 16 W b1 hb1)
 have W2 := hid_of (fun W => within_p fl fa 64 W b2 hb2)
 have W3 := hid_of (fun W => within_p fr 0 1 W b3 hb3)
 have W4 := hid_of (fun W => within_p (nc : Int) 1 4096 W b4 hb4)
 have hbad : (!badF f) = (b1 && (b2 && (b3 && b4))) := by
  rw [hb1, hb2, hb3, hb4, Bool.eq_iff_iff]
  unfold badF
  simp only [Bool.not_eq_true', decide_eq_false_iff_not, Bool.and_eq_true, decide_eq_true_eq]
  rw [h1, h2, h3, h4]
  omega
 rw [hbad]
 clear hkB hbB h1 h2 h3 h4 hb1 hb2 hb3 hb4 hbad
 cases b1
 ·go_enter Tryz.func101, Tryz.ntmps101
  go_wp2_with fail
  refine (W1.out _).mono ?_
  rintro e w' ⟨rfl, rfl⟩
  go_wp2
  go_ret
  exact ⟨rfl, HKB.out⟩
 ·cases b2
  ·go_enter Tryz.func101, Tryz.ntmps101
   go_wp2_with fail
   refine (W1.out _).mono ?_
   rintro e w' ⟨rfl, rfl⟩
   go_wp2_with fail
   refine (W2.out _).mono ?_
   rintro e w' ⟨rfl, rfl⟩
   go_wp2
   go_ret
   exact ⟨rfl, HKB.out⟩
  ·cases b3
   ·go_enter Tryz.func101, Tryz.ntmps101
    go_wp2_with fail
    refine (W1.out _).mono ?_
    rintro e w' ⟨rfl, rfl⟩
    go_wp2_with fail
    refine (W2.out _).mono ?_
    rintro e w' ⟨rfl, rfl⟩
    go_wp2_with fail
    refine (W3.out _).mono ?_
    rintro e w' ⟨rfl, rfl⟩
    go_wp2
    go_ret
    exact ⟨rfl, HKB.out⟩
   ·cases b4
    all_goals
     go_enter Tryz.func101, Tryz.ntmps101
     go_wp2_with fail
     refine (W1.out _).mono ?_
     rintro e w' ⟨rfl, rfl⟩
     go_wp2_with fail
     refine (W2.out _).mono ?_
     rintro e w' ⟨rfl, rfl⟩
     go_wp2_with fail
     refine (W3.out _).mono ?_
     rintro e w' ⟨rfl, rfl⟩
     go_wp2_with fail
     refine (W4.out _).mono ?_
     rintro e w' ⟨rfl, rfl⟩
     go_wp2
     go_ret
     exact ⟨rfl, HKB.out⟩
structure CoK (w wr : World) (lv : Value) (vs : List Value) (fs : List FN) : Prop where
 len : vs.length = fs.length
 row : wr.ownsRow w.heap.size 22 1 lv vs.length vs
 at' : ∀ (i : Nat) (v : Value) (f : FN), vs[i]? = some v → fs[i]? = some f → IsB wr v (encB f.code) ∧ ∀ g, v.ownBlock = some g → w.heap.size ≤ g ∧ g < wr.heap.size ∧ lv.ownBlock ≠ some g
 kept : KF w wr
theorem CoK.same {w wr w' : World} {lv : Value} {vs : List Value} {fs : List FN} (h : CoK w wr lv vs fs) (hk : KF wr w') : CoK w w' lv vs fs :=
 ⟨h.len, hk.ownsRow h.row (fun _ _ f => f), fun i v f hv hf => by
  obtain ⟨h1, h2⟩ := h.at' i v f hv hf
  exact ⟨h1.kept hk (fun _ _ f => f), fun g hg => ⟨(h2 g hg).1, Nat.lt_of_lt_of_le (h2 g hg).2.1 hk.size, (h2 g hg).2.2⟩⟩, h.kept.trans hk⟩
theorem Tryz.info22 : (Tryz.prog.info? 22).map (fun i => (i.zero, i.size, i.bytes)) = some (some (.slice none 0 0), 1, 24) := by kernel_rfl
theorem CoK.app {w W : World} {lv : Value} {vs : List Value} {fs : List FN} (h : CoK w W lv vs fs) (f : FN) (v : Value) (hv : IsB W v (encB f.code)) (hvo : ∀ g, v.ownBlock = some g → w.heap.size ≤ g ∧ g < W.heap.size ∧ lv.ownBlock ≠ some g) (hone : v.oneCell' = true) (hsz : (vs.length + 1) * 24 ≤ 140737488355328) :
  ∃ lv' w', (Builtin.append_ #[138, 138] 138 #[lv, .slice (some ⟨W.heap.size, 0, none⟩) 1 1]).run Tryz.prog (W.alloc (.cells #[v] 22)) = .ok lv' w' ∧ CoK w w' lv' (vs ++ [v]) (fs ++ [f]) := by
 obtain ⟨i0, hi, hz0, hz1, hz2⟩ := info_parts Tryz.info22
 obtain ⟨v', w', hr, h2, h3, h4, _⟩ := append_old (P := Tryz.prog) (W.alloc (.cells #[v] 22)) w.heap.size 138 138 22 i0 _ 1 24 Tryz.underlying138 hi hz0 hz1 hz2 rfl (by decide) lv vs.length vs (h.row.alloc _) ⟨W.heap.size, 0, none⟩ 1 1 [v] rfl (fun j u hj => by
  rw [Addr.add_lit, cell_block _ _ _ _ _ _ (heap_alloc_new W _), Nat.zero_add]
  simpa using hj) (fun u hu => by simp at hu; rw [hu]; exact hone) (by unfold maxLen; omega) hsz (by have := h.kept.size; simp; omega)
 have hk : Kept (fun k => lv.ownBlock = some k) W w' := ((Kept.refl _ W).alloc _).grown h3 (fun k hk => .inr hk)
 have hsz2 : (W.alloc (.cells #[v] 22)).heap.size = W.heap.size + 1 := by simp
 have hoff : ∀ g, g < W.heap.size → lv.ownBlock ≠ some g → v'.ownBlock ≠ some g := fun g h1 h2 e => by
  rcases h4 with e' | e'
  ·rw [e'] at e; exact h2 e
  ·rw [e', hsz2] at e
   have := Option.some.inj e
   omega
 refine ⟨v', w', hr, ⟨by simp [h.len], by rw [List.length_append]; exact h2, fun i u q hu hq => ?_, h.kept.step hk (fun q hq e => ?_)⟩⟩
 ·have key : IsB W u (encB q.code) ∧ ∀ g, u.ownBlock = some g → w.heap.size ≤ g ∧ g < W.heap.size ∧ lv.ownBlock ≠ some g := by
   by_cases hl : i < vs.length
   ·rw [List.getElem?_append_left hl] at hu
    rw [List.getElem?_append_left (by rw [← h.len]; exact hl)] at hq
    exact h.at' i u q hu hq
   ·have hl2 : i < (vs ++ [v]).length := (List.getElem?_eq_some_iff.1 hu).1
    rw [List.length_append] at hl2
    have hl3 : i = vs.length := by simp at hl2; omega
    subst hl3
    rw [List.getElem?_append_right (Nat.le_refl _)] at hu
    rw [h.len, List.getElem?_append_right (Nat.le_refl _)] at hq
    simp at hu hq
    subst hu
    subst hq
    exact ⟨hv, hvo⟩
  exact ⟨key.1.kept hk (fun g hg e => (key.2 g hg).2.2 e), fun g hg => ⟨(key.2 g hg).1, Nat.lt_of_lt_of_le (key.2 g hg).2.1 hk.size, hoff g (key.2 g hg).2.1 (key.2 g hg).2.2⟩⟩
 ·have := (h.row.lt q e).1
  omega
def CodesR (p : PG) (w : World) (e : Ending) (w' : World) : Prop :=
 KF w w' ∧
 if checkP p = 0 then ∃ lv vs, e = .returned (.tuple #[lv, .int .i64 0]) ∧ CoK w w' lv vs p.fns
 else e = .returned (.tuple #[.slice none 0 0, .int .i64 (checkP p)])
set_option maxHeartbeats 8000000 in
theorem codes_p (v : Value) (p : PG) (w : World) (B : Nat) (h : PgIs w B v p) (hB : B ≤ w.heap.size) (ho : p.Ok) :
  Calls Tryz.prog 81 #[v] w (CodesR p w) := by
 obtain ⟨dv, fv, rfl, hd, hdl, hf⟩ := h
 obtain ⟨dao, dc, rfl⟩ := hd.shape
 obtain ⟨fao, fc, rfl⟩ := hf.shape
 obtain ⟨nd, hnd⟩ := nmd (p.data.length)
 obtain ⟨nf, hnf⟩ := nmd (p.fns.length)
 obtain ⟨mem, hmem⟩ := nmd (p.mem)
 rw [← hnf] at hf
 rw [← hmem, ← hnd, ← hnf]
 have HF := hid_of hf
 have HO := hid_of ho
 have HNF := hid_of hnf
 have HBB := hid_of hB
 have hkA : KF w (w.alloc (.cells #[.int .i64 mem, .slice dao nd dc, .slice fao nf fc] 25)) := (Kept.refl _ _).alloc _
 have hbA := heap_alloc_new w (.cells #[.int .i64 mem, .slice dao nd dc, .slice fao nf fc] 25)
 have c0 := cell_block _ w.heap.size 0 _ _ _ hbA
 have c1 := cell_block _ w.heap.size 1 _ _ _ hbA
 have c2 := cell_block _ w.heap.size 2 _ _ _ hbA
 have HWM := hid_of (whole_p mem dao nd dc fao nf fc (w.alloc (.cells #[.int .i64 mem, .slice dao nd dc, .slice fao nf fc] 25)) p hmem hnd hnf)
 have HKA := hid_of hkA
 have HBA := hid_of hbA
 have hfit : (64 : Int) < (nf : Int) → badP p = true := fun h => by
  rcases bad_cases p with ⟨_, hb⟩ | ⟨hb, _⟩
  ·exact hb
  ·omega
 clear hd hdl hf ho hnf hnd hmem hB hkA hbA
 go_enter Tryz.func81, Tryz.ntmps81
 go_wp2_with fail
 generalize w.alloc (.cells #[.int .i64 mem, .slice dao nd dc, .slice fao nf fc] 25) = w0 at *
 refine HWM.out.mono ?_
 rintro e w1 ⟨rfl, hk1⟩
 have HK1 := hid_of (HKA.out.trans hk1)
 have HB1 : Hid (w1.heap[w.heap.size]? = some (.cells #[.int .i64 mem, .slice dao nd dc, .slice fao nf fc] 25 (0, 0))) := (hk1.block _ (Array.getElem?_eq_some_iff.1 HBA.out).1 id).trans HBA.out
 obtain ⟨gb, hgb⟩ := nmd (w.heap.size)
 rw [← hgb] at HB1
 rw [← hgb]
 clear hk1 HWM HKA HBA c0 c1 c2 hgb
 cases hbp : badP p with
 | true =>
  have HR : Hid (CodesR p w (.returned (.tuple #[.slice none 0 0, .int .i64 121])) w1) := ⟨HK1.out, by unfold checkP; rw [if_pos hbp, if_neg (by decide)]⟩
  clear hfit hbp
  go_wp2
  go_ret2
  exact HR.out
 | false =>
  have HC : Hid (checkP p = firstF p.fns) := by unfold Hid checkP; rw [if_neg (by rw [hbp]; decide)]
  have hnf64 : nf ≤ 64 := by
   rcases Nat.lt_or_ge 64 nf with h | h
   ·have := hfit (by omega); rw [hbp] at this; cases this
   ·exact h
  clear hfit hbp
  have c2 := cell_block _ gb 2 _ _ _ HB1.out
  have HC0 : Hid (CoK w w1 (.slice none 0 0) [] (p.fns.take 0)) := ⟨by simp, World.ownsRow_nil _ _ _ _, fun i v f hv => by simp at hv, HK1.out⟩
  go_wp2_with fail
  clear c2
  go_loopw [4, 15] (fun lv i wr => ∃ (k : Nat) (vs : List Value), k ≤ nf ∧ i = .int .i64 k ∧ vs.length = k ∧ Hid (CoK w wr lv vs (p.fns.take k)) ∧ Hid (∀ x ∈ p.fns.take k, errF x = 0)) (fun _ i _ => nf - (intOf i).toNat)
  case atStart => exact ⟨0, [], by omega, rfl, rfl, HC0, (fun x hx => by simp at hx)⟩
  case round =>
   obtain ⟨k, vs, hk, rfl, hvl, HCK, HGO⟩ := hrel
   have HVL := hid_of hvl
   clear hvl
   by_cases hlt : k < nf
   ·have hltI : (k : Int) < (nf : Int) := by omega
    obtain ⟨g, o, f, e1, hgB, hfi, hfa⟩ := (HF.out.kept HCK.out.kept (fun _ _ f => f)).at (i := k) (by rw [← HNF.out]; exact hlt)
    subst e1
    obtain ⟨cao, cc, x0, x1, x2, x3, hri, hcl⟩ := fn_read hfa
    have hfo := HO.out.fns f (List.mem_of_getElem? hfi)
    obtain ⟨fa, hfa'⟩ := nmd (f.a)
    obtain ⟨fl, hfl'⟩ := nmd (f.l)
    obtain ⟨fr, hfr'⟩ := nmd (f.r)
    obtain ⟨nc, hnc⟩ := nmd (f.code.length)
    have hen := encode_any (.slice cao nc cc) f.code
    have hncb := hfo.len
    rw [← hfa'] at x0
    rw [← hfl'] at x1
    rw [← hfr'] at x2
    rw [← hnc] at x3 hri hncb
    have hkB : KF wr (wr.alloc (.cells #[.int .i64 fa, .int .i64 fl, .int .i64 fr, .slice cao nc cc] 56)) := (Kept.refl _ _).alloc _
    have hbB := heap_alloc_new wr (.cells #[.int .i64 fa, .int .i64 fl, .int .i64 fr, .slice cao nc cc] 56)
    have HHM := hid_of (hmay_p fa fl fr cao nc cc (wr.alloc (.cells #[.int .i64 fa, .int .i64 fl, .int .i64 fr, .slice cao nc cc] 56)) f hfa' hfl' hfr' hnc)
    have HEN : Hid (∀ W, KF (wr.alloc (.cells #[.int .i64 fa, .int .i64 fl, .int .i64 fr, .slice cao nc cc] 56)) W → Calls Tryz.prog 102 #[.slice cao nc cc] W (EncR f.code W)) := fun W hW => hen W ((hri.kept hkB (fun _ _ f => f)).kept hW (fun _ _ f => f)) hfo.code (by rw [← hnc]; omega)
    have HKB := hid_of hkB
    have HBX := hid_of hbB
    have y0 := cell_block _ wr.heap.size 0 _ _ _ hbB
    have y1 := cell_block _ wr.heap.size 1 _ _ _ hbB
    have y2 := cell_block _ wr.heap.size 2 _ _ _ hbB
    have y3 := cell_block _ wr.heap.size 3 _ _ _ hbB
    have HFI := hid_of hfi
    clear hfa hri hcl hfo hfa' hfl' hfr' hnc hen hkB hbB hfi
    go_wp2_with fail
    refine HHM.out.mono ?_
    rintro e w5 ⟨rfl, hk5⟩
    have HK5 := hid_of hk5
    have HC5 := hid_of (HCK.out.same (HKB.out.trans hk5))
    have HB5 : Hid (w5.heap[wr.heap.size]? = some (.cells #[.int .i64 fa, .int .i64 fl, .int .i64 fr, .slice cao nc cc] 56 (0, 0))) := (hk5.block _ (Array.getElem?_eq_some_iff.1 HBX.out).1 id).trans HBX.out
    have HEN5 := hid_of (HEN.out w5 hk5)
    clear hk5 HHM HEN HBX y0 y1 y2 y3 x0 x1 x2 x3 HCK HKB HK5
    generalize wr.heap.size = gx at *
    have y3 := cell_block _ gx 3 _ _ _ HB5.out
    cases hbf : badF f with
    | true =>
     have he : errF f = 121 := by unfold errF; rw [if_pos hbf]
     have HR : Hid (CodesR p w (.returned (.tuple #[.slice none 0 0, .int .i64 121])) w5) := ⟨HC5.out.kept, by rw [HC.out, firstF_bad p.fns k f HGO.out HFI.out (by rw [he]; decide), he, if_neg (by decide)]⟩
     clear he hbf HEN5
     go_wp2
     go_ret2
     exact HR.out
    | false =>
     have he : errF f = encE f.code := by unfold errF; rw [if_neg (by rw [hbf]; decide)]
     have HE := hid_of he
     clear he hbf
     go_wp2_with fail
     refine HEN5.out.mono ?_
     rintro e w6 ⟨hk6, he6⟩
     have HC6 := hid_of (HC5.out.same hk6)
     have HS6 : Hid (∀ q, u4.ownBlock = some q → q < w5.heap.size) := fun q hq => (HC5.out.row.lt q hq).2
     have HSW : Hid (w.heap.size ≤ w5.heap.size) := HC5.out.kept.size
     clear hk6 HEN5 HC5 HB5 y3
     by_cases hE : encE f.code = 0
     ·rw [if_pos hE] at he6
      obtain ⟨v6, rfl, ho6⟩ := he6
      obtain ⟨bo, bc, hv6⟩ := ownsRow_shape ho6
      obtain ⟨bl, hbl⟩ := nmd ((encB f.code).length)
      rw [← hbl] at hv6
      subst hv6
      have HGO2 := hid_of (take_good HGO.out HFI.out (by rw [HE.out]; exact hE))
      obtain ⟨lv', w8, hr8, hC8⟩ := HC6.out.app f (.slice bo bl bc) (isB_own ho6) (fun g hg => ⟨Nat.le_trans HSW.out (ho6.lt g hg).1, (ho6.lt g hg).2, fun e => by have h1 := HS6.out g e; have h2 := (ho6.lt g hg).1; omega⟩) rfl (by rw [HVL.out]; omega)
      have htk : p.fns.take k ++ [f] = p.fns.take (k + 1) := by rw [List.take_add_one, HFI.out]; rfl
      rw [htk] at hC8
      have HR8 := hid_of hr8
      have HC8 := hid_of hC8
      have HVL2 : Hid ((vs ++ [Value.slice bo bl bc]).length = k + 1) := by unfold Hid; rw [List.length_append, HVL.out]; rfl
      clear ho6 hbl hE hr8 hC8 htk
      go_wp2_with (at_builtin; refine wp_app2 rfl (.tmp 31) (.tmp 33) 138 138 rfl _ _ rfl rfl lv' w8 HR8.out ?_)
      go_roundw
      case rel => exact ⟨k + 1, _, by omega, by go_num, HVL2.out, HC8, HGO2⟩
      case measure => simp [intOf]; omega
     ·rw [if_neg hE] at he6
      subst he6
      have HR : Hid (CodesR p w (.returned (.tuple #[.slice none 0 0, .int .i64 (encE f.code)])) w6) := ⟨HC6.out.kept, by rw [HC.out, firstF_bad p.fns k f HGO.out HFI.out (by rw [HE.out]; exact hE), HE.out, if_neg hE]⟩
      obtain ⟨ee, hee⟩ := nmd (encE f.code)
      rw [← hee] at HR hE ⊢
      have hb : (ee == 0) = false := by simp; exact hE
      have hb2 : (ee != 0) = true := by simp; exact hE
      clear hee
      go_wp2
      go_ret2
      exact HR.out
   ·have hnl : ¬ ((k : Int) < (nf : Int)) := by omega
    have hta : p.fns.take k = p.fns := List.take_of_length_le (by rw [← HNF.out]; omega)
    have hck := HCK.out
    have hgo := HGO.out
    rw [hta] at hck hgo
    have HR : Hid (CodesR p w (.returned (.tuple #[u4, .int .i64 0])) wr) := ⟨hck.kept, by rw [HC.out, firstF_good _ hgo, if_pos rfl]; exact ⟨_, vs, rfl, hck⟩⟩
    clear hta hck hgo
    go_wp2
    go_ret2
    exact HR.out
set_option maxHeartbeats 4000000 in
theorem check_p (v : Value) (p : PG) (w : World) (B : Nat) (h : PgIs w B v p) (hB : B ≤ w.heap.size) (ho : p.Ok) :
  Calls Tryz.prog 58 #[v] w fun e w' => e = .returned (.int .i64 (checkP p)) ∧ KF w w' := by
 have hpg := h
 obtain ⟨dv, fv, rfl, hd, hdl, hf⟩ := h
 obtain ⟨dao, dc, rfl⟩ := hd.shape
 obtain ⟨fao, fc, rfl⟩ := hf.shape
 obtain ⟨nd, hnd⟩ := nmd (p.data.length)
 obtain ⟨nf, hnf⟩ := nmd (p.fns.length)
 obtain ⟨mem, hmem⟩ := nmd (p.mem)
 rw [← hmem, ← hnd, ← hnf] at hpg ⊢
 obtain ⟨ee, hee⟩ := nmd (checkP p)
 have HEE := hid_of hee
 rw [← hee]
 clear hee
 have hkA : KF w (w.alloc (.cells #[.int .i64 mem, .slice dao nd dc, .slice fao nf fc] 25)) := (Kept.refl _ _).alloc _
 have hbA := heap_alloc_new w (.cells #[.int .i64 mem, .slice dao nd dc, .slice fao nf fc] 25)
 have c0 := cell_block _ w.heap.size 0 _ _ _ hbA
 have c1 := cell_block _ w.heap.size 1 _ _ _ hbA
 have c2 := cell_block _ w.heap.size 2 _ _ _ hbA
 have HCO := hid_of (codes_p _ p _ B (hpg.kept hkA (fun _ _ f => f)) (Nat.le_trans hB hkA.size) ho)
 have HKA := hid_of hkA
 clear hd hdl hf ho hnf hnd hmem hB hkA hbA hpg
 go_enter Tryz.func58, Tryz.ntmps58
 go_wp2_with fail
 refine HCO.out.mono ?_
 rintro e w1 ⟨hk1, he⟩
 have HK1 := hid_of (HKA.out.trans hk1)
 clear HCO hk1 c0 c1 c2
 by_cases hck : checkP p = 0
 ·rw [if_pos hck] at he
  obtain ⟨lv, vs, rfl, hco⟩ := he
  obtain ⟨lo, lc, hlv⟩ := ownsRow_shape hco.row
  subst hlv
  have h0 : ee = 0 := by rw [HEE.out]; exact hck
  subst h0
  clear hco hck HEE
  generalize vs.length = nv at *
  go_wp2
  go_ret
  exact ⟨rfl, HK1.out⟩
 ·rw [if_neg hck] at he
  subst he
  rw [← HEE.out]
  clear hck HEE
  go_wp2
  go_ret
  exact ⟨rfl, HK1.out⟩
end Go.Proofs.YtcaadgcfceommaaGreat

import Derived.Test.YtpfmhibdmehlcaaGreatDoorTOx5
import Derived.Test.YtpfmhibdmehlcaaGreatDoorTOx15
import Derived.Test.YtpfmhibdmehlcaaGreatDoorTOx4
import Derived.Laws.StructEq
namespace Go.Proofs.YtpfmhibdmehlcaaGreatDoor
open Go.RowKit
set_option linter.unusedVariables false
set_option linter.unusedSimpArgs false
section
variable {P : Program} (w : World)
theorem wpList_append_old {ops : Array Oper} {rest : List Oper} {o : Oper} {a : Act} {Q : Exit → Act → World → Prop} (hgd : o.guard = none) (s x : Operand) (t : TypeId)
  (ho : o.op = .call { callee := .builtin .append, args := #[s, x], argTypes := #[t, t] })
  (base : Nat) (e : TypeId) (i : TypeInfo) (z : Value) (size bytes : Nat) (ht : P.underlying t = some (.slice e)) (hi : P.info? e = some i) (hz : i.zero = some z)
  (hsize : i.size = size) (hby : i.bytes = bytes) (hzs : z.cells.size = size) (hsz : 0 < size)
  (v : Value) (n : Nat) (xs : List Value) (hs : a.eval s = v) (hown : w.ownsRow base e size v n xs)
  (ad : Addr) (m c : Nat) (news : List Value) (hx : a.eval x = .slice (some ad) m c) (hl : news.length = m * size) (hnews : ∀ j u, news[j]? = some u → w.cell? (ad.add j) = some u) (h1 : ∀ u ∈ news, u.oneCell' = true)
  (h63 : n + m ≤ maxLen) (hbytes : (n + m) * bytes ≤ 140737488355328) (hbase : base ≤ w.heap.size)
  (h : ∀ v' w', w'.ownsRow base e size v' (n + m) (xs ++ news) → w.grownBy w' v.ownBlock → (v'.ownBlock = v.ownBlock ∨ v'.ownBlock = some w.heap.size) → (∀ g, v.ownBlock = some g → ∀ j u, xs[j]? = some u → w'.cell? ⟨g, j, none⟩ = some u) → wpList P ops Q rest (a.put o.dst v') w') :
  wpList P ops Q (o :: rest) a w := by
 refine wpList_plain hgd fun K hK => ?_
 obtain ⟨v', w', hr, h2, h3, h4, h5⟩ := append_old (P := P) w base t o.type e i z size bytes ht hi hz hsize hby hzs hsz v n xs hown ad m c news hl hnews h1 h63 hbytes hbase
 unfold Oper.wp execOp
 simp only [ho, resolve, invoke, builtin, Sem.run_bind, Sem.run_pure, Result.andThen_ok, List.map_toArray, List.map_cons, List.map_nil, hs, hx, hr]
 exact hK _ _ (h v' w' h2 h3 h4 h5)
end
theorem rowOf_len {mk : Nat → List Value} {s : Nat} (h : ∀ k, (mk k).length = s) : ∀ n, (rowOf mk n).length = n * s
 | 0 => by simp [rowOf]
 | n + 1 => by rw [rowOf_succ, List.length_append, rowOf_len h n, h n, Nat.succ_mul]
theorem rowOf_at {mk : Nat → List Value} {s : Nat} (h : ∀ k, (mk k).length = s) (k c : Nat) (hc : c < s) : ∀ n, k < n → (rowOf mk n)[k * s + c]? = (mk k)[c]?
 | 0, hk => absurd hk (by omega)
 | n + 1, hk => by
  rw [rowOf_succ]
  by_cases e : k = n
  ·subst e
   rw [List.getElem?_append_right (by rw [rowOf_len h]; omega), rowOf_len h, Nat.add_sub_cancel_left]
  ·have h1 : k * s + c < n * s := by
    have : (k + 1) * s ≤ n * s := Nat.mul_le_mul_right _ (by omega)
    rw [Nat.succ_mul] at this
    omega
   rw [List.getElem?_append_left (by rw [rowOf_len h]; exact h1)]
   exact rowOf_at h k c hc n (by omega)
section
variable {e et s : Nat} {mk an : Nat → Nat → List Value}
theorem cAt_zero (ls : List RL) (k : Nat) : cAt mk s ls 0 0 k = (rlAt ls k).xs := by
 unfold cAt
 rw [if_neg (by omega)]
 by_cases e : k = 0
 ·subst e; simp [rowOf]
 ·rw [if_neg e]
theorem cAt_self (ls : List RL) (i j : Nat) : cAt mk s ls i j i = rowOf (mk i) j ++ (rlAt ls i).xs.drop (j * s) := by
 unfold cAt
 rw [if_neg (by omega), if_pos rfl]
theorem Fil.start {w : World} {lv : Value} {ls : List RL} (h : RLs e et s w lv ls) : Fil e et s mk w w lv ls 0 0 :=
 ⟨fun k hk => by rw [cAt_zero]; exact h.own k hk, h.row, Kept.refl _ _⟩
theorem row_cell {wr : World} {lv : Value} {ls : List RL} (h : wr.ownsRow 0 et 1 lv ls.length (ls.map RL.v)) {g : Nat} (hg : lv.ownBlock = some g) (k : Nat) (hk : k < ls.length) : wr.cell? ⟨g, k, none⟩ = some (rlAt ls k).v := by
 have := World.ownsRow.cells h hg k (rlAt ls k).v (by rw [List.getElem?_map, rlAt_get hk]; rfl)
 rw [Addr.add_lit, Nat.zero_add] at this
 exact this
def fulls (mk : Nat → Nat → List Value) (ls : List RL) : List RL := (List.range ls.length).map fun i => ⟨(rlAt ls i).v, (rlAt ls i).n, rowOf (mk i) (rlAt ls i).n⟩
theorem fulls_len (ls : List RL) : (fulls mk ls).length = ls.length := by simp [fulls]
theorem fulls_at (ls : List RL) {i : Nat} (h : i < ls.length) : rlAt (fulls mk ls) i = ⟨(rlAt ls i).v, (rlAt ls i).n, rowOf (mk i) (rlAt ls i).n⟩ := by
 show (fulls mk ls).getD i RL.dft = _
 unfold fulls
 rw [List.getD, List.getElem?_map, List.getElem?_range h]
 rfl
theorem fulls_v (ls : List RL) : (fulls mk ls).map RL.v = ls.map RL.v := by
 apply List.ext_getElem?
 intro i
 by_cases h : i < ls.length
 ·rw [List.getElem?_map, List.getElem?_map, rlAt_get h, rlAt_get (by rw [fulls_len]; exact h), fulls_at ls h]; rfl
 ·rw [List.getElem?_eq_none (by simp [fulls]; omega), List.getElem?_eq_none (by simp; omega)]
theorem Mor.start {w wr w' : World} {lv mv : Value} {ls : List RL} (hb : RLs e et s w lv ls) (h : Fil e et s mk w wr lv ls ls.length 0) (hk : Kept (fun _ => False) wr w') (hm : w'.ownsRow wr.heap.size et 1 mv ls.length (ls.map RL.v)) : Mor e et s mk an w w' lv mv ls (fulls mk ls) 0 0 := by
 have hs := h.kept.size
 have hnew : ∀ q, mv.ownBlock = some q → w.heap.size ≤ q := fun q hq => Nat.le_trans hs (hm.lt q hq).1
 have hfull := fun k (hk' : k < ls.length) => hk.ownsRow (h.full hk') (fun _ _ f => f)
 refine ⟨fulls_len ls, ⟨?_, fun i hi => ?_, fun i j hij hj q hq => ?_, fun i hi q hq he => ?_⟩, fun j hj => ?_, fun j hj => ?_, fun j hj => .inl ?_, hnew, hk.ownsRow h.row (fun _ _ f => f), fun j hj g hg c x hx => ?_, h.kept.step hk (fun _ _ f => f.elim)⟩
 ·rw [fulls_len, fulls_v]
  exact own_mono hm (Nat.zero_le _)
 ·rw [fulls_len] at hi
  rw [fulls_at ls hi]
  exact hfull i hi
 ·rw [fulls_len] at hj
  rw [fulls_at ls (by omega)] at hq
  rw [fulls_at ls hj]
  exact hb.apart i j hij hj q hq
 ·rw [fulls_len] at hi
  rw [fulls_at ls hi] at hq
  have h1 := hb.olt hi q hq
  have h2 := hnew q he
  omega
 ·rw [fulls_at ls hj]; rfl
 ·rw [fulls_at ls hj, if_neg (by omega)]; simp [rowOf]
 ·rw [fulls_at ls hj]
 ·have := World.ownsRow.cells (hfull j hj) hg c x hx
  rw [Addr.add_lit, Nat.zero_add] at this
  exact this
theorem own_cell {w : World} {v : Value} {n : Nat} {xs : List Value} (h : w.ownsRow 0 e s v n xs) {g : Nat} (hg : v.ownBlock = some g) (c : Nat) (x : Value) (hx : xs[c]? = some x) : w.cell? ⟨g, c, none⟩ = some x := by
 have := World.ownsRow.cells h hg c x hx
 rw [Addr.add_lit, Nat.zero_add] at this
 exact this
theorem set_one (A : List Value) (x : Value) (T : List Value) (h : 0 < T.length) (j : Nat) (hj : j = A.length) : (A ++ T).set j x = A ++ [x] ++ T.drop 1 := by
 subst hj
 cases T with
 | nil => simp at h
 | cons y T => simp [List.set_append]
theorem set_two (A : List Value) (x y : Value) (T : List Value) (h : 1 < T.length) (j : Nat) (hj : j = A.length) : ((A ++ T).set j x).set (j + 1) y = A ++ [x, y] ++ T.drop 2 := by
 subst hj
 match T, h with
 | a :: b :: T, _ => simp [List.set_append]
theorem cAt_one {ls : List RL} {i j n : Nat} {x : Value} (hm : ∀ k, (mk i k).length = 1) (hx : (rlAt ls i).xs.length = n * 1) (hj : j < n) (h : mk i j = [x]) : (cAt mk 1 ls i j i).set j x = cAt mk 1 ls i (j + 1) i := by
 rw [cAt_self, cAt_self, set_one _ x _ (by rw [List.length_drop]; omega) j (by rw [rowOf_len hm, Nat.mul_one]), rowOf_succ, h, List.drop_drop]
 congr 2
theorem cAt_two {ls : List RL} {i j n : Nat} {x y : Value} (hm : ∀ k, (mk i k).length = 2) (hx : (rlAt ls i).xs.length = n * 2) (hj : j < n) (h : mk i j = [x, y]) : ((cAt mk 2 ls i j i).set (j * 2) x).set (j * 2 + 1) y = cAt mk 2 ls i (j + 1) i := by
 rw [cAt_self, cAt_self, set_two _ x y _ (by rw [List.length_drop]; omega) (j * 2) (by rw [rowOf_len hm]), rowOf_succ, h, List.drop_drop]
 congr 2
 omega
theorem at_of {v v' : Value} {z b : Nat} (h : v'.ownBlock = v.ownBlock ∨ v'.ownBlock = some z) (hz : b ≤ z) : v'.ownBlock = v.ownBlock ∨ ∀ q, v'.ownBlock = some q → b ≤ q := by
 rcases h with h | h
 ·exact .inl h
 ·refine .inr (fun q hq => ?_)
  rw [h] at hq
  have := Option.some.inj hq
  omega
theorem kept_grown {w3 wA w5 : World} {row : Option Nat} (h : wA.grownBy w5 row) (hA : Kept (fun _ => False) w3 wA) : Kept (fun q => row = some q) w3 w5 :=
 (hA.mono (fun _ _ f => f.elim)).grown h (fun k hk => .inr hk)
theorem Kept.frozen {S : Nat → Prop} {w w' : World} (h : Kept S w w') {p : Addr} {b : Bool} (hl : p.block < w.heap.size) (hc : w.frozen? p = b) (hp : ¬ S p.block) : w'.frozen? p = b :=
 (World.frozen?_of_block (h.block p.block hl hp)).trans hc
end
end Go.Proofs.YtpfmhibdmehlcaaGreatDoor
namespace Go.Proofs.YtpfmhibdmehlcaaGreatDoor
open Go.RowKit
set_option linter.unusedVariables false
set_option linter.unusedSimpArgs false
structure RLn (e s : Nat) (w : World) (ls : List RL) : Prop where
 own : ∀ i, i < ls.length → w.ownsRow 0 e s (rlAt ls i).v (rlAt ls i).n (rlAt ls i).xs
 apart : ∀ i j, i < j → j < ls.length → ∀ q, (rlAt ls i).v.ownBlock = some q → (rlAt ls j).v.ownBlock ≠ some q
section
variable {e et s : Nat}
theorem RLn.nil (w : World) : RLn e s w [] := ⟨fun i hi => absurd hi (by simp), fun i j _ hj => absurd hj (by simp)⟩
theorem RLn.ch {S : Nat → Prop} {t : TypeId} {w w' : World} {ls : List RL} (h : RLn e s w ls) (hk : Kept S w w') (hc : Ch w S t) (hne : t ≠ e) : RLn e s w' ls := ⟨fun i hi => own_ch hk hc (h.own i hi) hne, h.apart⟩
theorem RLn.same {w w' : World} {ls : List RL} (h : RLn e s w ls) (hk : Kept (fun _ => False) w w') : RLn e s w' ls := ⟨fun i hi => hk.ownsRow (h.own i hi) (fun _ _ f => f), h.apart⟩
theorem RLn.blk {w : World} {ls : List RL} (h : RLn e s w ls) {q : Nat} (hq : Blk ls q) : q < w.heap.size := by
 obtain ⟨i, hi, hq⟩ := hq
 exact (World.ownsRow.lt (h.own i hi) q hq).2
theorem RLn.is {w : World} {ls : List RL} (h : RLn e s w ls) : Ch w (Blk ls) e := fun q hq => by
 obtain ⟨i, hi, hq⟩ := hq
 exact own_is (h.own i hi) q hq
theorem rl_appL {la lb : List RL} {i : Nat} (h : i < la.length) : rlAt (la ++ lb) i = rlAt la i := by unfold rlAt; rw [List.getD, List.getElem?_append_left h]; rfl
theorem rl_appR {la lb : List RL} {i : Nat} (h : la.length ≤ i) : rlAt (la ++ lb) i = rlAt lb (i - la.length) := by unfold rlAt; rw [List.getD, List.getElem?_append_right h]; rfl
theorem RLn.app {w : World} {la lb : List RL} {lo : Nat} (h : RLn e s w la) (hb : RLn e s w lb) (h1 : ∀ q, Blk la q → q < lo) (h2 : ∀ q, Blk lb q → lo ≤ q) : RLn e s w (la ++ lb) := by
 refine ⟨fun i hi => ?_, fun i j hij hj q hq => ?_⟩
 ·rw [List.length_append] at hi
  by_cases hl : i < la.length
  ·rw [rl_appL hl]; exact h.own i hl
  ·rw [rl_appR (by omega)]; exact hb.own _ (by omega)
 ·rw [List.length_append] at hj
  by_cases hl : j < la.length
  ·rw [rl_appL (by omega)] at hq
   rw [rl_appL hl]
   exact h.apart i j hij hl q hq
  ·rw [rl_appR (by omega)]
   by_cases hl2 : i < la.length
   ·rw [rl_appL hl2] at hq
    intro hq2
    have a1 := h1 q ⟨i, hl2, hq⟩
    have a2 := h2 q ⟨_, by omega, hq2⟩
    omega
   ·rw [rl_appR (by omega)] at hq
    exact hb.apart _ _ (by omega) (by omega) q hq
theorem Blk.app {la lb : List RL} {q : Nat} (h : Blk (la ++ lb) q) : Blk la q ∨ Blk lb q := by
 obtain ⟨i, hi, hq⟩ := h
 rw [List.length_append] at hi
 by_cases hl : i < la.length
 ·rw [rl_appL hl] at hq; exact .inl ⟨i, hl, hq⟩
 ·rw [rl_appR (by omega)] at hq; exact .inr ⟨_, by omega, hq⟩
theorem rl_take {L : List RL} {m i : Nat} (h : i < m) : rlAt (L.take m) i = rlAt L i := by
 unfold rlAt; rw [List.getD, List.getD, List.getElem?_take, if_pos h]
theorem RLs.more {w w' : World} {lv lv' : Value} {L : List RL} {m : Nat} (h : RLs e et s w lv (L.take m)) (hL : RLn e s w L) (hm : m < L.length) (hne : et ≠ e)
  (hown : w'.ownsRow 0 et 1 lv' (m + 1) ((L.take m).map RL.v ++ [(rlAt L m).v])) (hk : Kept (fun q => lv.ownBlock = some q) w w') (hat : lv'.ownBlock = lv.ownBlock ∨ ∀ q, lv'.ownBlock = some q → w.heap.size ≤ q) : RLs e et s w' lv' (L.take (m + 1)) := by
 have e1 : L.take (m + 1) = L.take m ++ [rlAt L m] := by
  rw [List.take_succ_eq_append_getElem hm]
  congr 2
  have := rlAt_get hm
  rw [List.getElem?_eq_getElem hm] at this
  exact Option.some.inj this
 have hl : (L.take m).length = m := by rw [List.length_take]; omega
 rw [e1]
 refine h.push (bs := [rlAt L m]) (fun i hi => ?_) (fun i j hij hj => ?_) (fun i hi q hq hq2 => ?_) (fun i hi q hq hq2 => ?_) ?_ hk hat
 ·have : i = 0 := by simp at hi; exact hi
  subst this
  exact hL.own m hm
 ·simp at hj; omega
 ·have : i = 0 := by simp at hi; exact hi
  subst this
  obtain ⟨k, hk1, hk2⟩ := hq
  rw [hl] at hk1
  rw [rl_take hk1] at hk2
  exact hL.apart k m hk1 hm q hk2 hq2
 ·have : i = 0 := by simp at hi; exact hi
  subst this
  exact own_not (own_is h.row) (hL.own m hm) hne q hq hq2
 ·rw [hl]; exact hown
theorem RLs.ch {S : Nat → Prop} {t : TypeId} {w w' : World} {lv : Value} {ls : List RL} (h : RLs e et s w lv ls) (hk : Kept S w w') (hc : Ch w S t) (h1 : t ≠ e) (h2 : t ≠ et) : RLs e et s w' lv ls :=
 h.kept hk (own_not hc h.row h2) (fun q hq => by obtain ⟨i, hi, hq⟩ := hq; exact own_not hc (h.own i hi) h1 q hq)
end
structure PO where
 R : Rdr
 dv : Value
 fv : Value
 CV : List Value
def PO.cells (x : PO) : List Value := [.int .i64 x.R.mem, x.dv, x.fv]
def PO.d (x : PO) : RL := ⟨x.dv, x.R.data.length, byts x.R.data⟩
def PO.f (x : PO) : RL := ⟨x.fv, x.R.fs.length, fnCells x.R.fs x.CV⟩
def PO.c (x : PO) : List RL := (x.CV.zip x.R.fs).map fun y => ⟨y.1, y.2.code.length, icells y.2.code⟩
def dlO (ps : List PO) : List RL := ps.map PO.d
def flO (ps : List PO) : List RL := ps.map PO.f
def clO (ps : List PO) : List RL := ps.flatMap PO.c
theorem dlO_len (ps : List PO) : (dlO ps).length = ps.length := by simp [dlO]
theorem flO_len (ps : List PO) : (flO ps).length = ps.length := by simp [flO]
theorem dlO_at {ps : List PO} {i : Nat} {x : PO} (h : ps[i]? = some x) : rlAt (dlO ps) i = x.d := by
 unfold rlAt dlO
 rw [List.getD, List.getElem?_map, h]; rfl
theorem flO_at {ps : List PO} {i : Nat} {x : PO} (h : ps[i]? = some x) : rlAt (flO ps) i = x.f := by
 unfold rlAt flO
 rw [List.getD, List.getElem?_map, h]; rfl
theorem PO.c_len {x : PO} (h : x.CV.length = x.R.fs.length) : x.c.length = x.R.fs.length := by unfold PO.c; rw [List.length_map, List.length_zip, h, Nat.min_self]
theorem PO.c_at {x : PO} {k : Nat} {f : Fnc} {c : Value} (hf : x.R.fs[k]? = some f) (hc : x.CV[k]? = some c) : rlAt x.c k = ⟨c, f.code.length, icells f.code⟩ := by
 unfold rlAt PO.c
 rw [List.getD, List.getElem?_map, (List.getElem?_zip_eq_some (z := (c, f))).2 ⟨hc, hf⟩]; rfl
theorem po_cut {ps : List PO} {i : Nat} {x : PO} (h : ps[i]? = some x) : ps = ps.take i ++ x :: ps.drop (i + 1) := by
 obtain ⟨hi, e⟩ := List.getElem?_eq_some_iff.1 h
 rw [← e, ← List.drop_eq_getElem_cons hi, List.take_append_drop]
theorem clO_at {ps : List PO} {i k : Nat} {x : PO} (h : ps[i]? = some x) (hk : k < x.c.length) : rlAt (clO ps) ((clO (ps.take i)).length + k) = rlAt x.c k := by
 have e : clO ps = clO (ps.take i) ++ (x.c ++ clO (ps.drop (i + 1))) := by
  conv => lhs; rw [po_cut h]
  unfold clO
  rw [List.flatMap_append, List.flatMap_cons]
 rw [e, rl_appR (by omega), show (clO (ps.take i)).length + k - (clO (ps.take i)).length = k by omega, rl_appL hk]
theorem clO_le {ps : List PO} {i : Nat} {x : PO} (h : ps[i]? = some x) : (clO (ps.take i)).length + x.c.length ≤ (clO ps).length := by
 have e : clO ps = clO (ps.take i) ++ (x.c ++ clO (ps.drop (i + 1))) := by
  conv => lhs; rw [po_cut h]
  unfold clO
  rw [List.flatMap_append, List.flatMap_cons]
 rw [e, List.length_append, List.length_append]
 omega
theorem clO_succ {ps : List PO} {i : Nat} {x : PO} (h : ps[i]? = some x) : (clO (ps.take (i + 1))).length = (clO (ps.take i)).length + x.c.length := by
 obtain ⟨hi, e⟩ := List.getElem?_eq_some_iff.1 h
 rw [List.take_succ_eq_append_getElem hi, e]
 unfold clO
 rw [List.flatMap_append, List.length_append, List.flatMap_cons, List.flatMap_nil, List.append_nil]
theorem clO_max {m : Nat} : ∀ (ps : List PO), (∀ x ∈ ps, x.c.length ≤ m) → (clO ps).length ≤ ps.length * m
 | [], _ => by simp [clO]
 | x :: ps, h => by
  unfold clO
  rw [List.flatMap_cons, List.length_append, List.length_cons, Nat.succ_mul]
  have h1 := h x (by simp)
  have h2 := clO_max ps (fun y hy => h y (by simp [hy]))
  unfold clO at h2
  omega
theorem clO_mem {ps : List PO} {j : Nat} (h : j < (clO ps).length) : ∃ x ∈ ps, ∃ k, k < x.c.length ∧ rlAt (clO ps) j = rlAt x.c k := by
 have h1 : rlAt (clO ps) j ∈ clO ps := List.mem_of_getElem? (rlAt_get h)
 obtain ⟨x, hx, hr⟩ := List.mem_flatMap.1 h1
 obtain ⟨k, hk⟩ := List.mem_iff_getElem?.1 hr
 have hkl := (List.getElem?_eq_some_iff.1 hk).1
 refine ⟨x, hx, k, hkl, ?_⟩
 rw [rlAt_get hkl] at hk
 exact (Option.some.inj hk).symm
theorem pocells_at : ∀ (ps : List PO) (i : Nat) (x : PO), ps[i]? = some x → ∀ j, j < 3 → (ps.flatMap PO.cells)[i * 3 + j]? = x.cells[j]?
 | p :: ps, 0, x, h, j, hj => by
  simp only [List.getElem?_cons_zero, Option.some.injEq] at h
  subst h
  rw [List.flatMap_cons, List.getElem?_append_left (by show 0 * 3 + j < 3; omega)]
  congr 1
  omega
 | p :: ps, i + 1, x, h, j, hj => by
  rw [List.flatMap_cons, List.getElem?_append_right (by show 3 ≤ (i + 1) * 3 + j; omega), show (i + 1) * 3 + j - p.cells.length = i * 3 + j by show (i + 1) * 3 + j - 3 = _; omega]
  exact pocells_at ps i x (by simpa using h) j hj
 | [], i, x, h, _, _ => by simp at h
def PBO (ps : List PO) (q : Nat) : Prop := Blk (dlO ps) q ∨ Blk (flO ps) q ∨ Blk (clO ps) q
structure PO.Fit (x : PO) : Prop where
 cv : x.CV.length = x.R.fs.length
 f1 : 1 ≤ x.R.fs.length
 f2 : x.R.fs.length ≤ 64
 d : x.R.data.length ≤ 4194304
 c : ∀ f ∈ x.R.fs, f.code.length ≤ 4194304
structure Apt (w : World) (ps : List PO) : Prop where
 dat : RLn 5 1 w (dlO ps)
 fns : RLn 51 4 w (flO ps)
 cod : RLn 48 2 w (clO ps)
 fit : ∀ x ∈ ps, x.Fit
theorem Apt.nil (w : World) : Apt w [] := ⟨RLn.nil w, RLn.nil w, RLn.nil w, fun x hx => by simp at hx⟩
theorem Apt.same {w w' : World} {ps : List PO} (h : Apt w ps) (hk : Kept (fun _ => False) w w') : Apt w' ps := ⟨h.dat.same hk, h.fns.same hk, h.cod.same hk, h.fit⟩
theorem Apt.lt {w : World} {ps : List PO} (h : Apt w ps) {q : Nat} (hq : PBO ps q) : q < w.heap.size := by
 rcases hq with hq | hq | hq
 ·exact h.dat.blk hq
 ·exact h.fns.blk hq
 ·exact h.cod.blk hq
theorem PBO.app {la lb : List PO} {q : Nat} (h : PBO (la ++ lb) q) : PBO la q ∨ PBO lb q := by
 unfold PBO dlO flO clO at h
 rw [List.map_append, List.map_append, List.flatMap_append] at h
 rcases h with h | h | h
 ·exact h.app.imp .inl .inl
 ·exact h.app.imp (fun h => .inr (.inl h)) (fun h => .inr (.inl h))
 ·exact h.app.imp (fun h => .inr (.inr h)) (fun h => .inr (.inr h))
theorem Apt.app {w : World} {la lb : List PO} {lo : Nat} (h : Apt w la) (hb : Apt w lb) (h1 : ∀ q, PBO la q → q < lo) (h2 : ∀ q, PBO lb q → lo ≤ q) : Apt w (la ++ lb) := by
 refine ⟨?_, ?_, ?_, fun x hx => (List.mem_append.1 hx).elim (h.fit x) (hb.fit x)⟩
 ·unfold dlO; rw [List.map_append]; exact h.dat.app hb.dat (fun q hq => h1 q (.inl hq)) (fun q hq => h2 q (.inl hq))
 ·unfold flO; rw [List.map_append]; exact h.fns.app hb.fns (fun q hq => h1 q (.inr (.inl hq))) (fun q hq => h2 q (.inr (.inl hq)))
 ·unfold clO; rw [List.flatMap_append]; exact h.cod.app hb.cod (fun q hq => h1 q (.inr (.inr hq))) (fun q hq => h2 q (.inr (.inr hq)))
theorem RLn.one {e s : Nat} {w : World} {y : RL} (h : w.ownsRow 0 e s y.v y.n y.xs) : RLn e s w [y] :=
 ⟨fun i hi => by
  have : i = 0 := by simp at hi; exact hi
  subst this; exact h, fun i j hij hj => by simp at hj; omega⟩
theorem apt_one {w0 w : World} {R : Rdr} {dv fv : Value} {CV : List Value} (hd : w.ownsRow w0.heap.size 5 1 dv R.data.length (byts R.data)) (hf : w.ownsRow w0.heap.size 51 4 fv R.fs.length (fnCells R.fs CV)) (hc : Fam w w0.heap.size 48 2 CV (R.fs.map codX))
  (hft : (PO.mk R dv fv CV).Fit) : Apt w [⟨R, dv, fv, CV⟩] ∧ ∀ q, PBO [⟨R, dv, fv, CV⟩] q → w0.heap.size ≤ q := by
 have hcl : clO [⟨R, dv, fv, CV⟩] = (PO.mk R dv fv CV).c := by simp [clO]
 have hlen := PO.c_len (x := ⟨R, dv, fv, CV⟩) hft.cv
 have hat : ∀ k, k < (PO.mk R dv fv CV).c.length → ∃ f c, R.fs[k]? = some f ∧ CV[k]? = some c ∧ rlAt (PO.mk R dv fv CV).c k = ⟨c, f.code.length, icells f.code⟩ ∧ w.ownsRow w0.heap.size 48 2 c f.code.length (icells f.code) := by
  intro k hk
  rw [hlen] at hk
  have hk2 : k < R.fs.length := hk
  have hf := List.getElem?_eq_getElem hk
  have hc' := List.getElem?_eq_getElem (l := CV) (i := k) (by have h9 : CV.length = R.fs.length := hft.cv; omega)
  refine ⟨_, _, hf, hc', PO.c_at (x := ⟨R, dv, fv, CV⟩) hf hc', ?_⟩
  exact hc.row k _ _ hc' (by rw [List.getElem?_map, hf]; rfl)
 refine ⟨⟨RLn.one (y := ⟨dv, _, _⟩) (own_mono hd (Nat.zero_le _)), RLn.one (y := ⟨fv, _, _⟩) (own_mono hf (Nat.zero_le _)), ?_, fun x hx => by simp at hx; subst hx; exact hft⟩, fun q hq => ?_⟩
 ·rw [hcl]
  refine ⟨fun i hi => ?_, fun i j hij hj q hq => ?_⟩
  ·obtain ⟨f, c, _, _, e, ho⟩ := hat i hi
   rw [e]; exact own_mono ho (Nat.zero_le _)
  ·obtain ⟨f, c, _, h2, e, _⟩ := hat i (by omega)
   obtain ⟨f', c', _, h4, e', _⟩ := hat j hj
   rw [e] at hq
   rw [e']
   exact hc.apart i j c c' (by omega) h2 h4 q hq
 ·rcases hq with ⟨i, hi, hq⟩ | ⟨i, hi, hq⟩ | hq
  ·have : i = 0 := by simp [dlO] at hi; exact hi
   subst this
   exact (World.ownsRow.lt hd q hq).1
  ·have : i = 0 := by simp [flO] at hi; exact hi
   subst this
   exact (World.ownsRow.lt hf q hq).1
  ·rw [hcl] at hq
   obtain ⟨i, hi, hq⟩ := hq
   obtain ⟨f, c, _, _, e, ho⟩ := hat i hi
   rw [e] at hq
   exact (World.ownsRow.lt ho q hq).1
structure GatO (w wr : World) (v : Value) (ps : List PO) (bv cv fv : Value) (i j m : Nat) : Prop where
 row : wr.ownsRow 0 25 3 v ps.length (ps.flatMap PO.cells)
 apt : Apt wr ps
 b : RLs 5 22 1 wr bv ((dlO ps).take i)
 f : RLs 51 23 4 wr fv ((flO ps).take j)
 c : RLs 48 49 2 wr cv ((clO ps).take m)
 bn : ∀ q, bv.ownBlock = some q → w.heap.size ≤ q
 fn : ∀ q, fv.ownBlock = some q → w.heap.size ≤ q
 cn : ∀ q, cv.ownBlock = some q → w.heap.size ≤ q
 kept : Kept (fun _ => False) w wr
theorem GatO.start {w : World} {v : Value} {ps : List PO} (h : w.ownsRow 0 25 3 v ps.length (ps.flatMap PO.cells)) (ha : Apt w ps) : GatO w w v ps (.slice none 0 0) (.slice none 0 0) (.slice none 0 0) 0 0 0 :=
 ⟨h, ha, RLs.nil w, RLs.nil w, RLs.nil w, fun q hq => (by cases hq), fun q hq => (by cases hq), fun q hq => (by cases hq), Kept.refl _ _⟩
theorem new_at {w wr : World} {u u' : Value} (hw : w.heap.size ≤ wr.heap.size) (hn : ∀ q, u.ownBlock = some q → w.heap.size ≤ q) (hat : u'.ownBlock = u.ownBlock ∨ ∀ q, u'.ownBlock = some q → wr.heap.size ≤ q) : ∀ q, u'.ownBlock = some q → w.heap.size ≤ q := fun q hq => by
 rcases hat with e | e
 ·rw [e] at hq; exact hn q hq
 ·have := e q hq; omega
theorem GatO.byt {w wr w' : World} {v bv cv fv bv' : Value} {ps : List PO} {i j m : Nat} (h : GatO w wr v ps bv cv fv i j m) (hi : i < ps.length)
  (hown : w'.ownsRow 0 22 1 bv' (i + 1) (((dlO ps).take i).map RL.v ++ [(rlAt (dlO ps) i).v])) (hk : Kept (fun q => bv.ownBlock = some q) wr w') (hat : bv'.ownBlock = bv.ownBlock ∨ ∀ q, bv'.ownBlock = some q → wr.heap.size ≤ q) : GatO w w' v ps bv' cv fv (i + 1) j m := by
 have hc := own_is h.b.row
 exact ⟨own_ch hk hc h.row (by decide), ⟨h.apt.dat.ch hk hc (by decide), h.apt.fns.ch hk hc (by decide), h.apt.cod.ch hk hc (by decide), h.apt.fit⟩, h.b.more h.apt.dat (by rw [dlO_len]; exact hi) (by decide) hown hk hat,
  h.f.ch hk hc (by decide) (by decide), h.c.ch hk hc (by decide) (by decide), new_at h.kept.size h.bn hat, h.fn, h.cn, h.kept.step hk (fun q hq e => by have := h.bn q e; omega)⟩
theorem GatO.fnc {w wr w' : World} {v bv cv fv fv' : Value} {ps : List PO} {i j m : Nat} (h : GatO w wr v ps bv cv fv i j m) (hi : j < ps.length)
  (hown : w'.ownsRow 0 23 1 fv' (j + 1) (((flO ps).take j).map RL.v ++ [(rlAt (flO ps) j).v])) (hk : Kept (fun q => fv.ownBlock = some q) wr w') (hat : fv'.ownBlock = fv.ownBlock ∨ ∀ q, fv'.ownBlock = some q → wr.heap.size ≤ q) : GatO w w' v ps bv cv fv' i (j + 1) m := by
 have hc := own_is h.f.row
 exact ⟨own_ch hk hc h.row (by decide), ⟨h.apt.dat.ch hk hc (by decide), h.apt.fns.ch hk hc (by decide), h.apt.cod.ch hk hc (by decide), h.apt.fit⟩, h.b.ch hk hc (by decide) (by decide), h.f.more h.apt.fns (by rw [flO_len]; exact hi) (by decide) hown hk hat,
  h.c.ch hk hc (by decide) (by decide), h.bn, new_at h.kept.size h.fn hat, h.cn, h.kept.step hk (fun q hq e => by have := h.fn q e; omega)⟩
theorem GatO.cod {w wr w' : World} {v bv cv fv cv' : Value} {ps : List PO} {i j m : Nat} (h : GatO w wr v ps bv cv fv i j m) (hm : m < (clO ps).length)
  (hown : w'.ownsRow 0 49 1 cv' (m + 1) (((clO ps).take m).map RL.v ++ [(rlAt (clO ps) m).v])) (hk : Kept (fun q => cv.ownBlock = some q) wr w') (hat : cv'.ownBlock = cv.ownBlock ∨ ∀ q, cv'.ownBlock = some q → wr.heap.size ≤ q) : GatO w w' v ps bv cv' fv i j (m + 1) := by
 have hc := own_is h.c.row
 exact ⟨own_ch hk hc h.row (by decide), ⟨h.apt.dat.ch hk hc (by decide), h.apt.fns.ch hk hc (by decide), h.apt.cod.ch hk hc (by decide), h.apt.fit⟩, h.b.ch hk hc (by decide) (by decide), h.f.ch hk hc (by decide) (by decide),
  h.c.more h.apt.cod hm (by decide) hown hk hat, h.bn, h.fn, new_at h.kept.size h.cn hat, h.kept.step hk (fun q hq e => by have := h.cn q e; omega)⟩
end Go.Proofs.YtpfmhibdmehlcaaGreatDoor
namespace Go.Proofs.YtpfmhibdmehlcaaGreatDoor
open Go.RowKit Go.Deep
set_option linter.unusedVariables false
set_option linter.unusedSimpArgs false
set_option maxRecDepth 100000
set_option maxHeartbeats 4000000 in
theorem same_any (v1 v2 : Value) (ys zs : List IN) (w : World) (h1 : RowI w v1 ys) (h2 : RowI w v2 zs) (hl : ys.length ≤ 9223372036854775807) (hl2 : zs.length ≤ 9223372036854775807) :
  Calls Tryz.prog 22 #[v1, v2] w fun e w' => e = .returned (.bool (sameI ys zs)) ∧ ∃ n, w' = w.drewN n := by
 obtain ⟨a1, c1, rfl⟩ := h1.shape
 obtain ⟨a2, c2, rfl⟩ := h2.shape
 by_cases hne : ys.length = zs.length
 ·have HN := hid_of hne
  have HR : Hid (∀ k, k < ys.length → ∃ b1 o1 b2 o2, a1 = some ⟨b1, o1, none⟩ ∧ a2 = some ⟨b2, o2, none⟩ ∧ ∃ y z, ys[k]? = some y ∧ zs[k]? = some z ∧ w.cell? ⟨b1, o1 + k * 2, none⟩ = some (.int .i64 y.op) ∧ w.cell? ⟨b1, o1 + k * 2 + 1, none⟩ = some (.int .i64 y.a) ∧ w.cell? ⟨b2, o2 + k * 2, none⟩ = some (.int .i64 z.op) ∧ w.cell? ⟨b2, o2 + k * 2 + 1, none⟩ = some (.int .i64 z.a)) := fun k hk => by
   rcases h1 with ⟨e, _⟩ | ⟨b1, o1, d1, e1, r1⟩
   ·rw [e] at hk; simp at hk
   ·rcases h2 with ⟨e, _⟩ | ⟨b2, o2, d2, e2, r2⟩
    ·rw [hne, e] at hk; simp at hk
    ·cases e1
     cases e2
     have hk2 : k < zs.length := by omega
     have g1 := r1 k _ (List.getElem?_eq_getElem hk)
     have g2 := r2 k _ (List.getElem?_eq_getElem hk2)
     exact ⟨b1, o1, b2, o2, rfl, rfl, ys[k], zs[k], List.getElem?_eq_getElem hk, List.getElem?_eq_getElem hk2, g1 0 _ rfl, g1 1 _ rfl, g2 0 _ rfl, g2 1 _ rfl⟩
  obtain ⟨n, hn⟩ := nmd (ys.length)
  rw [← hne, ← hn]
  have HL := hid_of hn
  clear h1 h2 hne hl2
  rw [← hn] at hl
  clear hn
  go_enter Tryz.func22, Tryz.ntmps22
  go_wp2
  go_loopw [5] (fun iv wr => ∃ (k d : Nat), k ≤ n ∧ iv = .int .i64 k ∧ sameI ys zs = sameI (ys.drop k) (zs.drop k) ∧ wr = w.drewN d) (fun iv _ => n - (intOf iv).toNat)
  case atStart => exact ⟨0, 0, by omega, rfl, rfl, rfl⟩
  case round =>
   obtain ⟨k, d, hk, rfl, hs, rfl⟩ := hrel
   by_cases hlt : k < n
   ·obtain ⟨b1, o1, b2, o2, rfl, rfl, ⟨yo, ya⟩, ⟨zo, za⟩, hy, hz, q0, q1, q2, q3⟩ := HR.out k (by rw [← HL.out]; exact hlt)
    have hkI : (k : Int) < (n : Int) := by omega
    have HS := hid_of hs
    have HY := hid_of hy
    have HZ := hid_of hz
    clear hs hy hz
    have hq := fun w => run_neq52 w yo ya zo za
    go_upto_region 6 with fail
    go_quiet (fail)
    go_wp2
    ·rename_i hbad
     have HF : Hid (sameI ys zs = false) := by
      unfold Hid
      rw [HS.out, sameI_at HY.out HZ.out]
      simp only [Bool.and_eq_false_iff]
      left
      rcases hbad with h | h
      ·left; simpa using h
      ·right; simpa using h
     go_ret
     exact ⟨by rw [HF.out]; rfl, _, rfl⟩
    ·rename_i hok
     refine ⟨⟨k + 1, _, by omega, by go_num, ?_, rfl⟩, by simp [intOf]; omega⟩
     rw [HS.out, sameI_at HY.out HZ.out]
     have h1 : (yo == zo) = true := by simpa using hok.1
     have h2 : (ya == za) = true := by simpa using hok.2
     simp [h1, h2]
   ·have hkI : (n : Int) ≤ (k : Int) := by omega
    have HF : Hid (sameI ys zs = true) := by
     unfold Hid
     have e1 : ys.drop k = [] := List.drop_eq_nil_of_le (by rw [← HL.out]; omega)
     have e2 : zs.drop k = [] := List.drop_eq_nil_of_le (by rw [← HN.out, ← HL.out]; omega)
     rw [hs, e1, e2]
     rfl
    clear hs
    go_wp2
    go_ret
    exact ⟨by rw [HF.out]; rfl, _, rfl⟩
 ·have hb : ((ys.length : Int) != (zs.length : Int)) = true := by simp; omega
  have HF := hid_of (sameI_len hne)
  clear h1 h2 hne
  generalize ys.length = n1 at *
  generalize zs.length = n2 at *
  go_enter Tryz.func22, Tryz.ntmps22
  go_wp2
  go_ret
  exact ⟨by rw [HF.out]; rfl, 0, rfl⟩
end Go.Proofs.YtpfmhibdmehlcaaGreatDoor

/-
 Mj: Rb, Rm.
-/
import Derived.Test.YtjdbmjkidljhpaaGreatDoorTRgt
import Derived.Laws.Tables
import Derived.Deep.MidRow
namespace Go.Proofs.YtjdbmjkidljhpaaGreatDoor
open Go.RowKit
set_option linter.unusedVariables false
set_option linter.unusedSimpArgs false
set_option maxRecDepth 100000
theorem uncons {n : Nat} {d : List Int} (h : d.length = n + 1) : ∃ x t, d = x :: t ∧ t.length = n := by
 cases d with
 | nil => simp at h
 | cons x t => exact ⟨x, t, rfl, by simpa using h⟩
set_option maxRecDepth 100000 in
theorem built50x (x0 x1 x2 x3 x4 x5 x6 x7 x8 x9 x10 x11 x12 x13 x14 x15 x16 x17 x18 x19 x20 x21 x22 x23 x24 x25 x26 x27 x28 x29 x30 x31 la : Int) (ao : Option Addr) (n c : Nat) : Tryz.prog.built 50 [(0, .agg #[.int .u8 x0, .int .u8 x1, .int .u8 x2, .int .u8 x3, .int .u8 x4, .int .u8 x5, .int .u8 x6, .int .u8 x7, .int .u8 x8, .int .u8 x9, .int .u8 x10, .int .u8 x11, .int .u8 x12, .int .u8 x13, .int .u8 x14, .int .u8 x15, .int .u8 x16, .int .u8 x17, .int .u8 x18, .int .u8 x19, .int .u8 x20, .int .u8 x21, .int .u8 x22, .int .u8 x23, .int .u8 x24, .int .u8 x25, .int .u8 x26, .int .u8 x27, .int .u8 x28, .int .u8 x29, .int .u8 x30, .int .u8 x31]), (1, .slice ao n c), (2, .int .i64 la)] = some #[.int .u8 x0, .int .u8 x1, .int .u8 x2, .int .u8 x3, .int .u8 x4, .int .u8 x5, .int .u8 x6, .int .u8 x7, .int .u8 x8, .int .u8 x9, .int .u8 x10, .int .u8 x11, .int .u8 x12, .int .u8 x13, .int .u8 x14, .int .u8 x15, .int .u8 x16, .int .u8 x17, .int .u8 x18, .int .u8 x19, .int .u8 x20, .int .u8 x21, .int .u8 x22, .int .u8 x23, .int .u8 x24, .int .u8 x25, .int .u8 x26, .int .u8 x27, .int .u8 x28, .int .u8 x29, .int .u8 x30, .int .u8 x31, .slice ao n c, .int .i64 la] := by kernel_rfl
theorem built50 (d : List Int) (hd : d.length = 32) (ao : Option Addr) (n c : Nat) (la : Int) : Tryz.prog.built 50 [(0, .agg (d.map (Value.int .u8)).toArray), (1, .slice ao n c), (2, .int .i64 la)] = some (d.map (Value.int .u8) ++ [Value.slice ao n c, Value.int .i64 la]).toArray := by
 obtain ⟨x0, t0, rfl, h0⟩ := uncons hd
 obtain ⟨x1, t1, rfl, h1⟩ := uncons h0
 obtain ⟨x2, t2, rfl, h2⟩ := uncons h1
 obtain ⟨x3, t3, rfl, h3⟩ := uncons h2
 obtain ⟨x4, t4, rfl, h4⟩ := uncons h3
 obtain ⟨x5, t5, rfl, h5⟩ := uncons h4
 obtain ⟨x6, t6, rfl, h6⟩ := uncons h5
 obtain ⟨x7, t7, rfl, h7⟩ := uncons h6
 obtain ⟨x8, t8, rfl, h8⟩ := uncons h7
 obtain ⟨x9, t9, rfl, h9⟩ := uncons h8
 obtain ⟨x10, t10, rfl, h10⟩ := uncons h9
 obtain ⟨x11, t11, rfl, h11⟩ := uncons h10
 obtain ⟨x12, t12, rfl, h12⟩ := uncons h11
 obtain ⟨x13, t13, rfl, h13⟩ := uncons h12
 obtain ⟨x14, t14, rfl, h14⟩ := uncons h13
 obtain ⟨x15, t15, rfl, h15⟩ := uncons h14
 obtain ⟨x16, t16, rfl, h16⟩ := uncons h15
 obtain ⟨x17, t17, rfl, h17⟩ := uncons h16
 obtain ⟨x18, t18, rfl, h18⟩ := uncons h17
 obtain ⟨x19, t19, rfl, h19⟩ := uncons h18
 obtain ⟨x20, t20, rfl, h20⟩ := uncons h19
 obtain ⟨x21, t21, rfl, h21⟩ := uncons h20
 obtain ⟨x22, t22, rfl, h22⟩ := uncons h21
 obtain ⟨x23, t23, rfl, h23⟩ := uncons h22
 obtain ⟨x24, t24, rfl, h24⟩ := uncons h23
 obtain ⟨x25, t25, rfl, h25⟩ := uncons h24
 obtain ⟨x26, t26, rfl, h26⟩ := uncons h25
 obtain ⟨x27, t27, rfl, h27⟩ := uncons h26
 obtain ⟨x28, t28, rfl, h28⟩ := uncons h27
 obtain ⟨x29, t29, rfl, h29⟩ := uncons h28
 obtain ⟨x30, t30, rfl, h30⟩ := uncons h29
 obtain ⟨x31, t31, rfl, h31⟩ := uncons h30
 obtain rfl : t31 = [] := List.length_eq_zero_iff.1 h31
 exact built50x x0 x1 x2 x3 x4 x5 x6 x7 x8 x9 x10 x11 x12 x13 x14 x15 x16 x17 x18 x19 x20 x21 x22 x23 x24 x25 x26 x27 x28 x29 x30 x31 la ao n c
theorem size50 : (Tryz.prog.info? 50).map (·.size) = some 34 := by kernel_rfl
section
variable {ops : Array Oper} {S : World → Prop} {o : Oper} {a : Act}
theorem yields_blob (hw : Region.wanted o (yielded ops a.tmps) = true) (x y z : Operand) (ho : o.op = .build 50 #[(0, x), (1, y), (2, z)]) (d : List Int) (hd : d.length = 32) (ao : Option Addr) (n c : Nat) (la : Int)
  (hx : a.eval x = .agg (d.map (Value.int .u8)).toArray) (hy : a.eval y = .slice ao n c) (hz : a.eval z = .int .i64 la) : YieldsIf Tryz.prog ops S o (.agg (d.map (Value.int .u8) ++ [Value.slice ao n c, Value.int .i64 la]).toArray) a :=
 .inl ⟨hw, fun w _ => by
  have e : (#[(0, x), (1, y), (2, z)].map fun (i, q) => (i, a.eval q)).toList = [(0, .agg (d.map (Value.int .u8)).toArray), (1, .slice ao n c), (2, .int .i64 la)] := by rw [← hx, ← hy, ← hz]; simp
  unfold execOp
  simp only [ho, Sem.run_bind, run_build w 50 _ _ (by rw [e]; exact built50 d hd ao n c la), Result.andThen_ok, Sem.run_pure]⟩
end
end Go.Proofs.YtjdbmjkidljhpaaGreatDoor
namespace Go.Proofs.YtjdbmjkidljhpaaGreatDoor
open Go.RowKit
set_option linter.unusedVariables false
set_option linter.unusedSimpArgs false
set_option maxRecDepth 100000
/-- Values stored into a list from o on. -/
def setL : List Value → Nat → List Value → List Value
 | xs, _, [] => xs
 | xs, o, v :: r => setL (xs.set o v) (o + 1) r
theorem setL_app : ∀ (vs A T : List Value), vs.length ≤ T.length → setL (A ++ T) A.length vs = A ++ vs ++ T.drop vs.length
 | [], A, T, _ => by simp [setL]
 | v :: r, A, [], h => by simp at h
 | v :: r, A, x :: T, h => by
  have e : (A ++ x :: T).set A.length v = (A ++ [v]) ++ T := by simp [List.set_append]
  have := setL_app r (A ++ [v]) T (by simpa using h)
  rw [setL, e, show A.length + 1 = (A ++ [v]).length by simp, this]
  simp
theorem kept_setCells (g : Nat) : ∀ (vs : List Value) (o : Nat) (w : World), Kept (fun k => k = g) w (w.setCells g o vs)
 | [], _, _ => Kept.refl _ _
 | v :: r, o, w => (kept_set w ⟨g, o, none⟩ v).trans (kept_setCells g r (o + 1) _)
theorem own_setCells {B e s g n c : Nat} : ∀ (vs : List Value) (o : Nat) (xs : List Value) (w : World), w.ownsRow B e s (.slice (some ⟨g, 0, none⟩) n c) n xs → (w.setCells g o vs).ownsRow B e s (.slice (some ⟨g, 0, none⟩) n c) n (setL xs o vs)
 | [], _, _, _, h => h
 | v :: r, o, xs, w, h => own_setCells r (o + 1) _ _ (World.ownsRow.stored h o v).1
theorem own_there {B e s g n c : Nat} {xs : List Value} {w : World} (h : w.ownsRow B e s (.slice (some ⟨g, 0, none⟩) n c) n xs) (o k : Nat) (hk : o + k ≤ n * s) : w.there g o k := by
 intro j hj
 refine ⟨?_, World.ownsRow.frozenAt h (o + j)⟩
 rw [h.cellAt (o + j) (by omega), List.getElem?_eq_getElem (by rw [h.1]; omega)]
 rfl
theorem bls_app (a b : List Bl) : bls (a ++ b) = bls a ++ bls b := List.flatMap_append ..
theorem bls_set {l : List Bl} (h32 : ∀ b ∈ l, b.d.length = 32) {i : Nat} (hi : i < l.length) {x : Bl} (hx : x.d.length = 32) : setL (bls l) (i * 34) x.cells = bls (l.set i x) := by
 have h1 : l = l.take i ++ (l[i] :: l.drop (i + 1)) := by rw [← List.drop_eq_getElem_cons hi, List.take_append_drop]
 have h2 : (bls (l.take i)).length = i * 34 := by
  rw [bls_len (fun b hb => h32 b (List.mem_of_mem_take hb)), List.length_take]
  have : min i l.length = i := by omega
  rw [this]
 have h3 : bls l = bls (l.take i) ++ (l[i].cells ++ bls (l.drop (i + 1))) := by
  conv => lhs; rw [h1]
  rw [bls_app]
  rfl
 have h4 := setL_app x.cells (bls (l.take i)) (l[i].cells ++ bls (l.drop (i + 1))) (by rw [List.length_append, bl_len hx, bl_len (h32 _ (List.getElem_mem hi))]; omega)
 rw [h2] at h4
 rw [h3, h4, List.set_eq_take_append_cons_drop, if_pos hi, bls_app, bl_len hx, List.drop_append, bl_len (h32 _ (List.getElem_mem hi)), List.drop_of_length_le (by rw [bl_len (h32 _ (List.getElem_mem hi))]; exact Nat.le_refl _)]
 simp [bls]
theorem Try.info50r : (Tryz.prog.info? 50).map (fun i => (i.zero, i.size, i.bytes)) = some (some (.agg (List.replicate 32 (Value.int .u8 0) ++ [Value.slice none 0 0, Value.int .i64 0]).toArray), 34, 64) := by kernel_rfl
/-- Blobs behind a row of one's own. -/
theorem app_row {W : World} {B n : Nat} {v : Value} {xs : List Value} (h : W.ownsRow B 50 34 v n xs) (hB : B ≤ W.heap.size) (p : Option Addr) (m c : Nat) (news : List Value) (hl : news.length = m * 34) (hc : ∀ q, p = some q → ∀ j u, news[j]? = some u → W.cell? (q.add j) = some u) (h0 : p = none → m = 0) (h1 : ∀ u ∈ news, u.oneCell' = true) (hs : n + m ≤ 2000000) :
  ∃ v' w', (Builtin.append_ #[40, 40] 40 #[v, .slice p m c]).run Tryz.prog W = .ok v' w' ∧ w'.ownsRow B 50 34 v' (n + m) (xs ++ news) ∧ Kept (fun q => v.ownBlock = some q) W w' := by
 obtain ⟨i0, hi, hz0, hz1, hz2⟩ := info_parts Try.info50r
 cases p with
 | some q =>
  obtain ⟨v', w', hr, h2, h3, _⟩ := run_append_own (P := Tryz.prog) W B 40 40 50 i0 _ 34 64 Tryz.underlying40 hi hz0 hz1 hz2 rfl (by decide) v n xs h q m c news hl (hc q rfl) h1 (by unfold maxLen; omega) (by omega) hB
  exact ⟨v', w', hr, h2, (Kept.refl (fun q => v.ownBlock = some q) W).grown h3 (fun k hk => .inr hk)⟩
 | none =>
  have hm := h0 rfl
  subst hm
  have hnil : news = [] := List.length_eq_zero_iff.1 (by omega)
  subst hnil
  refine ⟨v, W, ?_, by simpa using h, Kept.refl _ _⟩
  rcases h.2 with ⟨rfl, rfl⟩ | ⟨g, cap, cur, rfl, _, _, hnc, _⟩
  ·simp [Builtin.append_, run_underlying Tryz.underlying40, sizeOf, typeInfo, hi, Builtin.lenOf, Builtin.firstCells]
  ·simp [Builtin.append_, run_underlying Tryz.underlying40, sizeOf, typeInfo, hi, Builtin.lenOf, Builtin.firstCells, storeCells, hnc]
/-- Nothing behind a row of one's own. -/
theorem app_zero {W : World} {B n : Nat} {v : Value} {xs : List Value} (h : W.ownsRow B 50 34 v n xs) (p : Option Addr) (c : Nat) : (Builtin.append_ #[40, 40] 40 #[v, .slice p 0 c]).run Tryz.prog W = .ok v W := by
 obtain ⟨i0, hi, hz0, hz1, hz2⟩ := info_parts Try.info50r
 rcases h.2 with ⟨rfl, rfl⟩ | ⟨g, cap, cur, rfl, _, _, hnc, _⟩
 ·cases p <;> simp [Builtin.append_, run_underlying Tryz.underlying40, sizeOf, typeInfo, hi, Builtin.lenOf, Builtin.firstCells, loadCells, loadCellsFrom]
 ·cases p <;> simp [Builtin.append_, run_underlying Tryz.underlying40, sizeOf, typeInfo, hi, Builtin.lenOf, Builtin.firstCells, storeCells, hnc, loadCells, loadCellsFrom]
section
variable {P : Program} {ops : Array Oper} {o : Oper} {a : Act} {w : World} {K : Act → World → Prop} {Q : Exit → Act → World → Prop} {E : Prop}
theorem stp_store_mid (hgd : o.guard = none) (ty : TypeId) (x y : Operand) (ho : o.op = .store ty x y) (b i : Nat) (cells : Array Value) (hx : a.eval x = .pointer (some ⟨b, i, none⟩)) (hy : a.eval y = .agg cells)
  (ht : w.there b i cells.size) (hi : (P.info? ty).map (·.size) = some cells.size) (h1 : cells.all (·.oneCell') = true)
  (h : K (a.put o.dst undef) (w.setCells b i cells.toList)) : if Region.wanted o (yielded ops a.tmps) = true then Oper.wp P o a w K Q else E := by
 have hw : Region.wanted o (yielded ops a.tmps) = true := by simp [Region.wanted, hgd]
 rw [if_pos hw]
 exact wp_store_mid ty x y ho b i cells hx hy ht hi h1 h
theorem stp_app4 (hgd : o.guard = none) (s x : Operand) (t u : TypeId) (ho : o.op = .call { callee := .builtin .append, args := #[s, x], argTypes := #[t, u] }) (v bv : Value) (hs : a.eval s = v) (hx : a.eval x = bv) (v' : Value) (w' : World)
  (hr : (Builtin.append_ #[t, u] o.type #[v, bv]).run P w = .ok v' w') (h : K (a.put o.dst v') w') : if Region.wanted o (yielded ops a.tmps) = true then Oper.wp P o a w K Q else E := by
 have hw : Region.wanted o (yielded ops a.tmps) = true := by simp [Region.wanted, hgd]
 rw [if_pos hw]
 unfold Oper.wp execOp
 simp only [ho, resolve, invoke, builtin, Sem.run_bind, Sem.run_pure, Result.andThen_ok, List.map_toArray, List.map_cons, List.map_nil, hs, hx, hr]
 exact h
end
/-- Bytes behind an empty row that is there. -/
theorem app_bytes2 {W : World} {b1 B : Nat} {v : Value} {xs : List Int} (hE : W.heap[b1]? = some (.cells #[] 5 (0, 0))) (hb : B ≤ b1) (hx : BIn W v xs) (hn : xs.length ≤ 140737488355328) :
  ∃ vo vc w', (Builtin.append_ #[27, 27] 27 #[.slice (some ⟨b1, 0, none⟩) 0 0, v]).run Tryz.prog W = .ok (.slice vo xs.length vc) w' ∧ w'.ownsRow B 5 1 (.slice vo xs.length vc) xs.length (xs.map (Value.int .u8)) ∧ Kept (fun k => k = b1) W w' := by
 obtain ⟨i0, hi, hz0, hz1, hz2⟩ := info_parts infoB
 have hBW : B ≤ W.heap.size := by have := heap_lt hE; omega
 obtain ⟨ao, c, rfl, hc, h1⟩ := hx
 cases ao with
 | none =>
  have h0 : xs = [] := by
   rcases h1 with h1 | ⟨b, o, h, _⟩
   ·exact h1
   ·cases h
  subst h0
  refine ⟨some ⟨b1, 0, none⟩, 0, W, ?_, own_zero hE hb, Kept.refl _ _⟩
  simp [Builtin.append_, run_underlying Tryz.underlying27, sizeOf, typeInfo, hi, Builtin.lenOf, Builtin.firstCells, storeCells]
 | some p =>
  have hcc : ∀ j u, (xs.map (Value.int .u8))[j]? = some u → W.cell? (p.add j) = some u := by
   intro j u hj
   have hjl : j < xs.length := by
    have := (List.getElem?_eq_some_iff.1 hj).1
    simpa using this
   rcases h1 with h1 | ⟨b, o, h, h1⟩
   ·rw [h1] at hjl; exact absurd hjl (Nat.not_lt_zero _)
   ·cases h
    rw [Addr.add_mid, h1 j hjl, ← hj]
    simp [List.getD, hjl]
  obtain ⟨v', w', hr, h2, h3, _⟩ := run_append_own (P := Tryz.prog) W B 27 27 5 i0 _ 1 1 Tryz.underlying27 hi hz0 hz1 hz2 rfl (by decide) (.slice (some ⟨b1, 0, none⟩) 0 0) 0 [] (own_zero hE hb) p xs.length c (xs.map (Value.int .u8)) (by simp) hcc (ones8 xs) (by unfold maxLen; omega) (by omega) hBW
  rw [Nat.zero_add, List.nil_append] at h2
  obtain ⟨vo, vc, rfl⟩ := row_form h2
  exact ⟨vo, vc, w', hr, h2, (Kept.refl (fun k => k = b1) W).grown h3 (fun k hk => .inr (by simp [Value.ownBlock] at hk; omega))⟩
/-- A blob's cells. -/
def blA (d : List Int) (vo : Option Addr) (n c : Nat) (la : Int) : Array Value := (d.map (Value.int .u8) ++ [Value.slice vo n c, Value.int .i64 la]).toArray
theorem blA_size (d : List Int) (hd : d.length = 32) (vo : Option Addr) (n c : Nat) (la : Int) : (blA d vo n c la).size = 34 := by simp [blA, hd]
theorem blA_one (d : List Int) (vo : Option Addr) (n c : Nat) (la : Int) : (blA d vo n c la).all (·.oneCell') = true := by
 unfold blA
 refine Array.all_eq_true_iff_forall_mem.2 (fun v hv => ?_)
 simp only [List.mem_toArray, List.mem_append, List.mem_map, List.mem_cons, List.not_mem_nil, or_false] at hv
 rcases hv with ⟨x, _, rfl⟩ | rfl | rfl <;> rfl
theorem blA_info (d : List Int) (hd : d.length = 32) (vo : Option Addr) (n c : Nat) (la : Int) : (Tryz.prog.info? 50).map (·.size) = some (blA d vo n c la).size := by rw [size50, blA_size d hd]
theorem blA_list (d : List Int) (vo : Option Addr) (n c : Nat) (la : Int) (xs : List Int) : (blA d vo n c la).toList = Bl.cells ⟨d, .slice vo n c, xs, la⟩ := by simp [blA, Bl.cells]
section
variable {ops : Array Oper} {S : World → Prop} {o : Oper} {a : Act}
theorem yields_blA (hw : Region.wanted o (yielded ops a.tmps) = true) (x y z : Operand) (ho : o.op = .build 50 #[(0, x), (1, y), (2, z)]) (d : List Int) (hd : d.length = 32) (ds : Array Value) (hds : ds = (d.map (Value.int .u8)).toArray) (vo : Option Addr) (n c : Nat) (la : Int)
  (hx : a.eval x = .agg ds) (hy : a.eval y = .slice vo n c) (hz : a.eval z = .int .i64 la) : YieldsIf Tryz.prog ops S o (.agg (blA d vo n c la)) a := by
 subst hds
 exact yields_blob hw x y z ho d hd vo n c la hx hy hz
end
end Go.Proofs.YtjdbmjkidljhpaaGreatDoor

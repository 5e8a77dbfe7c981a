import Derived.Test.YtpfmhibdmehlcaaGreatDoorTOx6
import Derived.Shelf.Lay
import Derived.Shelf.LaysM
import Derived.Shelf.LaysC
import Derived.Shelf.Small.Wraps
import Derived.Shelf.Strconv.Itoa3
import Derived.Shelf.Strconv.ParseIntPublic10
import Derived.Shelf.Strconv.AppendIntPublic10
import Derived.Shelf.Strings.Prefix
import Derived.Shelf.Strings.Split
import Derived.Shelf.Strings.AsciiSet
import Derived.Deep.RegionHeld3
import Derived.Deep.MidRow
import Derived.Deep.AppendSrc
import Derived.Laws.ResultCell
namespace Go.Proofs.YtpfmhibdmehlcaaGreatDoor
open Go.RowKit
set_option linter.unusedVariables false
set_option linter.unusedSimpArgs false
set_option maxRecDepth 100000
def pk : Nat → List Bool → List Oper → Option (Oper × List Bool × Nat)
 | k + 1, b :: bs, _ :: os => match pk k bs os with | some (x, l, i) => some (x, b :: l, i + 1) | none => none
 | 0, true :: bs, _ :: os => match pk 0 bs os with | some (x, l, i) => some (x, true :: l, i + 1) | none => none
 | 0, false :: bs, o :: _ => some (o, true :: bs, 0)
 | _, _, _ => none
theorem pk_spec : ∀ (os : List Oper) (k : Nat) (bs : List Bool) (x : Oper) (l : List Bool) (i : Nat), pk k bs os = some (x, l, i) → os[i]? = some x ∧ l = bs.set i true
 | [], k, bs, x, l, i, h => by cases k <;> cases bs <;> simp [pk] at h
 | o :: os, k, [], x, l, i, h => by cases k <;> simp [pk] at h
 | o :: os, k + 1, b :: bs, x, l, i, h => by
  rw [pk] at h
  cases e : pk k bs os with
  | none => rw [e] at h; cases h
  | some y =>
   obtain ⟨y, m, j⟩ := y
   rw [e] at h
   cases h
   obtain ⟨h1, h2⟩ := pk_spec os k bs _ _ _ e
   exact ⟨by simpa using h1, by rw [h2]; rfl⟩
 | o :: os, 0, true :: bs, x, l, i, h => by
  rw [pk] at h
  cases e : pk 0 bs os with
  | none => rw [e] at h; cases h
  | some y =>
   obtain ⟨y, m, j⟩ := y
   rw [e] at h
   cases h
   obtain ⟨h1, h2⟩ := pk_spec os 0 bs _ _ _ e
   exact ⟨by simpa using h1, by rw [h2]; rfl⟩
 | o :: os, 0, false :: bs, x, l, i, h => by
  rw [pk] at h
  cases h
  exact ⟨rfl, rfl⟩
theorem pk_at {ops : Array Oper} {listed : Array Bool} {k i : Nat} {x : Oper} {l : List Bool} (h : pk k listed.toList ops.toList = some (x, l, i)) : ops[i]? = some x ∧ listed.setIfInBounds i true = l.toArray := by
 obtain ⟨h1, h2⟩ := pk_spec _ _ _ _ _ _ h
 refine ⟨by rw [← Array.getElem?_toList]; exact h1, ?_⟩
 apply Array.ext'
 rw [Array.toList_setIfInBounds, h2]
theorem tkn {P : Program} {ops : Array Oper} {Q : Exit → Act → World → Prop} {md : Region.Mode} {S : World → Prop} {oi : Oper} {v : Value} {fuel i : Nat} {listed : Array Bool} {bs : List Bool} {a : Act} {w : World} (k : Nat) (hi : pk k listed.toList ops.toList = some (oi, bs, i)) (hy : ∀ w : World, S w → Sem.run P (execOp a.eval oi) w = Result.ok (Next.value v) w) (h : wpAnyH P md ops Q S fuel bs.toArray (a.put oi.dst v) w)
  (hs : Region.noSelect ops = true := by kernel_rfl) (hf : Region.free md ops listed i = true := by kernel_rfl) (hr : (Region.ready md ops listed).contains i = true := by kernel_rfl) (hQ : ∀ c a w, Q (.panic c) (a.put oi.dst v) w → Q (.panic c) a w := by exact fun _ _ _ h => h) (hw : Region.wanted oi (yielded ops a.tmps) = true := by rfl) (hS : S w := by assumption) : wpAnyH P md ops Q S (fuel + 1) listed a w :=
 wpAnyH_take (pk_at hi).1 hs hf hr hQ (Or.inl ⟨hw, hy⟩) hS (by rw [(pk_at hi).2]; exact h)
theorem rdy {P : Program} {md : Region.Mode} {ops : Array Oper} {Q : Exit → Act → World → Prop} {S : World → Prop} {fuel : Nat} {listed : Array Bool} {a : Act} {w : World} (i : Nat) {o : Oper} (ho : ops[i]? = some o) (h : ∀ K' : Act → World → Prop, Shut (∀ a w, S w → (S w → wpAnyH P md ops Q S fuel (listed.setIfInBounds i true) a w) → K' a w) → if Region.wanted o (yielded ops a.tmps) = true then Oper.wp P o a w K' Q else K' (a.put o.dst undef) w) (hr : Region.ready md ops listed = [i] := by kernel_rfl) : wpAnyH P md ops Q S (fuel + 1) listed a w := wpAnyH_ready hr (by simp) (AllReadyH.cons ho h AllReadyH.nil)
theorem tdy : (∀ {α : Type} {xs : List α} {i : Nat} (h : i < xs.toArray.size), xs.toArray[i] = xs[i]'(by simpa using h)) ∧ (∀ {α : Type} (l : List α) (i : Nat) (a : α), l.toArray.setIfInBounds i a = (l.set i a).toArray) ∧ (∀ {α : Type} {a : α} {t : List α} (h : 0 < (a :: t).length), (a :: t)[0] = a) ∧ (∀ {α : Type} {a : α} {t : List α} {i : Nat} (h : i + 1 < (a :: t).length), (a :: t)[i + 1] = t[i]'(by simpa using h)) ∧ (∀ {α : Type} {a b : α} {t : List α}, (a :: t).set 0 b = b :: t) ∧ (∀ {α : Type} {a b : α} {t : List α} {n : Nat}, (a :: t).set (n + 1) b = a :: t.set n b) :=
 ⟨fun _ => rfl, fun _ _ _ => by simp, fun _ => rfl, fun _ => rfl, rfl, rfl⟩
theorem own_box2 {w : World} {base e s : Nat} {v : Value} {n : Nat} {xs : List Value} (h : w.ownsRow base e s v n xs) {B t : Nat} {cs : Array Value} (hb : w.heap[B]? = some (.cells cs t (0, 0))) (hne : t ≠ e) : v.ownBlock ≠ some B := fun hq => by
 rcases h.2 with ⟨rfl, _⟩ | ⟨g, cap, cur, rfl, _, hgg, _⟩
 ·cases hq
 ·simp [Value.ownBlock] at hq
  subst hq
  rw [hb] at hgg
  simp at hgg
  exact hne hgg.2
theorem own_two {w : World} {b e s b' e' s' : Nat} {v v' : Value} {n n' : Nat} {xs xs' : List Value} (h : w.ownsRow b e s v n xs) (h' : w.ownsRow b' e' s' v' n' xs') (hne : e ≠ e') : ∀ q, v.ownBlock = some q → v'.ownBlock ≠ some q := fun q hq hq' => by
 rcases h.2 with ⟨rfl, _⟩ | ⟨g, cap, cur, rfl, _, hgg, _⟩
 ·cases hq
 ·simp [Value.ownBlock] at hq
  subst hq
  exact own_box2 h' hgg hne hq'
theorem allocs2 (w : World) (c1 : Array Value) (t1 : TypeId) (c2 : Array Value) (t2 : TypeId) (W : World) (hW : W = (w.alloc (.cells c1 t1)).alloc (.cells c2 t2)) :
  Kept (fun _ => False) w W ∧ W.heap[w.heap.size]? = some (.cells c1 t1 (0, 0)) ∧ W.heap[w.heap.size + 1]? = some (.cells c2 t2 (0, 0)) := by
 subst hW
 refine ⟨((Kept.refl _ _).alloc _).alloc _, ?_, ?_⟩
 ·rw [heap_alloc_old _ _ (by simp)]; exact heap_alloc_new w _
 ·exact (by simp : (w.alloc (.cells c1 t1)).heap.size = w.heap.size + 1) ▸ heap_alloc_new _ _
theorem look3 {w : World} {g : Nat} {t : TypeId} {a b c : Value} (h : w.heap[g]? = some (.cells #[a, b, c] t (0, 0))) : w.cell? ⟨g, 0, none⟩ = some a ∧ w.cell? ⟨g, 1, none⟩ = some b ∧ w.cell? ⟨g, 2, none⟩ = some c ∧ w.frozen? ⟨g, 0, none⟩ = false ∧ w.frozen? ⟨g, 1, none⟩ = false ∧ w.frozen? ⟨g, 2, none⟩ = false :=
 ⟨cell_block _ _ 0 _ _ _ h, cell_block _ _ 1 _ _ _ h, cell_block _ _ 2 _ _ _ h, frozen_block _ _ 0 _ _ h, frozen_block _ _ 1 _ _ h, frozen_block _ _ 2 _ _ h⟩
theorem set4 (w : World) (g : Nat) (t : TypeId) (a0 a1 a2 a3 x0 x1 x2 x3 : Value) (h : w.heap[g]? = some (.cells #[a0, a1, a2, a3] t (0, 0))) :
  ((((w.setCell ⟨g, 0, none⟩ x0).setCell ⟨g, 1, none⟩ x1).setCell ⟨g, 2, none⟩ x2).setCell ⟨g, 3, none⟩ x3).heap[g]? = some (.cells #[x0, x1, x2, x3] t (0, 0)) ∧ Kept (fun k => k = g) w ((((w.setCell ⟨g, 0, none⟩ x0).setCell ⟨g, 1, none⟩ x1).setCell ⟨g, 2, none⟩ x2).setCell ⟨g, 3, none⟩ x3) := by
 have h1 := set_block _ _ 0 _ _ _ h x0
 have h2 := set_block _ _ 1 _ _ _ h1 x1
 have h3 := set_block _ _ 2 _ _ _ h2 x2
 have h4 := set_block _ _ 3 _ _ _ h3 x3
 exact ⟨h4, (((kept_set w g 0 x0).trans (kept_set _ g 1 x1)).trans (kept_set _ g 2 x2)).trans (kept_set _ g 3 x3)⟩
theorem set3 (w : World) (g : Nat) (t : TypeId) (a0 a1 a2 x0 x1 x2 : Value) (h : w.heap[g]? = some (.cells #[a0, a1, a2] t (0, 0))) :
  (((w.setCell ⟨g, 0, none⟩ x0).setCell ⟨g, 1, none⟩ x1).setCell ⟨g, 2, none⟩ x2).heap[g]? = some (.cells #[x0, x1, x2] t (0, 0)) ∧ Kept (fun k => k = g) w (((w.setCell ⟨g, 0, none⟩ x0).setCell ⟨g, 1, none⟩ x1).setCell ⟨g, 2, none⟩ x2) := by
 have h1 := set_block _ _ 0 _ _ _ h x0
 have h2 := set_block _ _ 1 _ _ _ h1 x1
 have h3 := set_block _ _ 2 _ _ _ h2 x2
 exact ⟨h3, ((kept_set w g 0 x0).trans (kept_set _ g 1 x1)).trans (kept_set _ g 2 x2)⟩
theorem step_app {P : Program} {w : World} {ops : Array Oper} {o : Oper} {a : Act} {K : Act → World → Prop} {Q : Exit → Act → World → Prop} {E : Prop} (hg : o.guard = none) (s x : Operand) (t u : TypeId)
  (ho : o.op = .call { callee := .builtin .append, args := #[s, x], argTypes := #[t, u] }) (v bv : Value) (hs : a.eval s = v) (hx : a.eval x = bv) (v' : Value) (w' : World)
  (hr : (Builtin.append_ #[t, u] o.type #[v, bv]).run P w = .ok v' w') (h : K (a.put o.dst v') w') :
  if Region.wanted o (yielded ops a.tmps) = true then Oper.wp P o a w K Q else E := by
 have hw : Region.wanted o (yielded ops a.tmps) = true := by simp [Region.wanted, hg]
 rw [if_pos hw]
 unfold Oper.wp
 simp [execOp, ho, resolve, invoke, builtin, hs, hx, hr, Result.andThen]
 exact h
section
variable {P : Program} {ops : Array Oper} {o : Oper} {a : Act} {w : World} {K : Act → World → Prop} {Q : Exit → Act → World → Prop} {E : Prop}
theorem stp_store_row (hgd : o.guard = none) (ty : TypeId) (x y : Operand) (ho : o.op = .store ty x y)
  (g : Nat) (cells : Array Value) (hx : a.eval x = .pointer (some ⟨g, 0, none⟩)) (hy : a.eval y = .agg cells)
  (t : TypeId) (old : Array Value) (hg : w.heap[g]? = some (.cells old t (0, 0))) (hi : (P.info? ty).map (·.size) = some cells.size)
  (hold : old.size = cells.size) (h1 : cells.all (·.oneCell') = true)
  (h : K (a.put o.dst undef) (w.setRow g cells)) : if Region.wanted o (yielded ops a.tmps) = true then Oper.wp P o a w K Q else E := by
 have hw : Region.wanted o (yielded ops a.tmps) = true := by simp [Region.wanted, hgd]
 rw [if_pos hw]
 exact wp_store_row ty x y ho g cells hx hy t old hg hi hold h1 h
end
theorem look4 {w : World} {g : Nat} {t : TypeId} {a b c d : Value} (h : w.heap[g]? = some (.cells #[a, b, c, d] t (0, 0))) : w.cell? ⟨g, 0, none⟩ = some a ∧ w.cell? ⟨g, 1, none⟩ = some b ∧ w.cell? ⟨g, 2, none⟩ = some c ∧ w.cell? ⟨g, 3, none⟩ = some d ∧ w.frozen? ⟨g, 0, none⟩ = false ∧ w.frozen? ⟨g, 1, none⟩ = false ∧ w.frozen? ⟨g, 2, none⟩ = false ∧ w.frozen? ⟨g, 3, none⟩ = false :=
 ⟨cell_block _ _ 0 _ _ _ h, cell_block _ _ 1 _ _ _ h, cell_block _ _ 2 _ _ _ h, cell_block _ _ 3 _ _ _ h, frozen_block _ _ 0 _ _ h, frozen_block _ _ 1 _ _ h, frozen_block _ _ 2 _ _ h, frozen_block _ _ 3 _ _ h⟩
end Go.Proofs.YtpfmhibdmehlcaaGreatDoor
namespace Go.Proofs
open Go.Shelf Go.RowKit Go.Deep Go.ChangeShapes
shelf_lay Lays.n103 Nm 103 at Tryz as Tryz.lays103
theorem Tryz.strings_CutPrefix (s p : ByteArray) (w : World) :
  Calls Tryz.prog 124 #[.string s, .string p] w fun e w' => e = .returned (.tuple #[.string ⟨(Lib.trimPrefix s.data.toList p.data.toList).toArray⟩, .bool (Lib.hasPrefix s.data.toList p.data.toList)]) ∧ w' = w := Any.strings_CutPrefix Tryz.lays103 s p w
shelf_lay LaysM.n171 Nm 171 at Tryz as Tryz.laysM171
shelf_lay LaysC.n174 Nm 174 at Tryz as Tryz.laysC174
theorem Tryz.strconv_ParseInt_10_at64_ok (s : ByteArray) (hmax : s.size ≤ 9223372036854775806) (v : Int) (h : Lib.parseIntB 64 s.data.toList = .ok v) (w : World) :
  Calls Tryz.prog 127 #[.string s, .int .i64 10, .int .i64 64] w fun e w' => e = .returned (.tuple #[.int .i64 v, .nilIface]) ∧ (w' = w ∨ ∃ t, w' = Lib.bytesWorld w 5 t) := Any.strconv_ParseInt_10_at64_ok Tryz.laysC174 s hmax v h w
shelf_lay LaysM.n176 Nm 176 at Tryz as Tryz.laysM176
theorem Tryz.strconv_AppendInt_10 (B n : Nat) (i : Int) (h0 : -9223372036854775808 ≤ i) (h1 : i ≤ 9223372036854775807) (sv : Value) (xs : List Value) (w : World) (hown : w.ownsRow B 5 1 sv n xs) (hBw : B ≤ w.heap.size) (hlim : n + 21 ≤ 140737488355328) (htab : Lib.TabBelow Tryz.prog B w "internal/strconv.uint64pow10" .u64 Lib.pow10Tab) :
  Calls Tryz.prog 42 #[sv, .int .i64 i, .int .i64 10] w fun e w' => ∃ v', e = .returned v' ∧ w'.ownsRow B 5 1 v' (n + (Lib.itoa i).length) (xs ++ Lib.byteCells (Lib.itoa i)) ∧ Below B w w' ∧ Lib.OthersKept 5 none w w' := Any.strconv_AppendInt_10 Tryz.laysM176 B n i h0 h1 sv xs w hown hBw hlim htab
shelf_lay Lays.n101 Nm 101 at Tryz as Tryz.lays101
theorem Tryz.strings_TrimPrefix (s p : ByteArray) (w : World) :
  Calls Tryz.prog 129 #[.string s, .string p] w fun e w' => e = .returned (.string ⟨(Lib.trimPrefix s.data.toList p.data.toList).toArray⟩) ∧ w' = w := Any.strings_TrimPrefix Tryz.lays101 s p w
shelf_lay Lays.n146 Nm 146 at Tryz as Tryz.lays146
theorem Tryz.strings_Split (s sep : ByteArray) (m : Int) (w : World) (hs : s.size < 4294967281) (hm : w.cell? ⟨0, 0, none⟩ = some (.int .i64 m)) (h1 : 1 ≤ sep.size) :
  Calls Tryz.prog 35 #[.string s, .string sep] w fun e w' =>
   e = .returned (.slice (some ⟨w.heap.size, 0, none⟩) (Lib.countB s sep + 1) (Lib.countB s sep + 1)) ∧ w' = w.alloc (.cells ((Lib.splitB sep 0 (Lib.countB s sep) s).map Value.string).toArray 9) := Any.strings_Split Tryz.lays146 (by kernel_rfl) s sep m w hs hm h1
shelf_lay Lays.n227 Nm 227 at Tryz as Tryz.lays227
shelf_lay Lays.n228 Nm 228 at Tryz as Tryz.lays228
end Go.Proofs
namespace Go.Proofs.YtpfmhibdmehlcaaGreatDoor
open Go.RowKit
end Go.Proofs.YtpfmhibdmehlcaaGreatDoor
namespace Go.Proofs.YtpfmhibdmehlcaaGreatDoor
open Go.RowKit
set_option linter.unusedVariables false
set_option linter.unusedSimpArgs false
set_option maxRecDepth 100000
theorem Tryz.info125 : (Tryz.prog.info? 125).map (fun i => (i.zero, i.size, i.bytes)) = some (some (.agg #[.int .i64 0, .string ⟨#[]⟩, .int .i64 0, .bool false]), 4, 40) := by kernel_rfl
def NewB (W : World) (v v' : Value) : Prop := v'.ownBlock = v.ownBlock ∨ v'.ownBlock = some (W.heap.size + 1)
theorem push_byte {w0 W : World} {v : Value} {k : Nat} {xs : List Value} (h : W.ownsRow w0.heap.size 5 1 v k xs) (x : Value) (hone : x.oneCell' = true) (hk : Kept (fun _ => False) w0 W) (hl : k ≤ 900000) :
  ∃ v' w', (Builtin.append_ #[22, 22] 22 #[v, .slice (some ⟨W.heap.size, 0, none⟩) 1 1]).run Tryz.prog (W.alloc (.cells #[x] 5)) = .ok v' w' ∧ w'.ownsRow w0.heap.size 5 1 v' (k + 1) (xs ++ [x]) ∧ Kept (fun _ => False) w0 w' ∧ Kept (fun q => v.ownBlock = some q) W w' ∧ NewB W v v' := by
 obtain ⟨i0, hi, hz0, hz1, hz2⟩ := info_parts Tryz.info5
 obtain ⟨v', w', hr, h2, h3, h4, _⟩ := append_old (P := Tryz.prog) (W.alloc (.cells #[x] 5)) w0.heap.size 22 22 5 i0 _ 1 1 Tryz.underlying22 hi hz0 hz1 hz2 rfl (by decide) v k xs (h.alloc _) ⟨W.heap.size, 0, none⟩ 1 1 [x] (by simp) (fun j u hj => by
  have hjl := (List.getElem?_eq_some_iff.1 hj).1
  have : j = 0 := by simpa using hjl
  subst this
  rw [Addr.add_lit, cell_block _ _ _ _ _ _ (heap_alloc_new W _)]
  simpa using hj) (fun u hu => by simp at hu; subst hu; exact hone) (by unfold maxLen; omega) (by omega) (by have := hk.size; simp; omega)
 have hk1 : Kept (fun k => v.ownBlock = some k) W w' := ((Kept.refl _ W).alloc _).grown h3 (fun k hk => .inr hk)
 exact ⟨v', w', hr, h2, hk.step hk1 (fun i hi e => by have := (h.lt i e).1; omega), hk1, by simpa [NewB] using h4⟩
theorem push_piece {w0 W : World} {v : Value} {k : Nat} {xs : List Value} (h : W.ownsRow w0.heap.size 125 4 v k xs) (x0 x1 x2 x3 : Value) (h0 : x0.oneCell' = true) (h1 : x1.oneCell' = true) (h2 : x2.oneCell' = true) (h3 : x3.oneCell' = true) (hk : Kept (fun _ => False) w0 W) (hl : k ≤ 90000) :
  ∃ v' w', (Builtin.append_ #[118, 118] 118 #[v, .slice (some ⟨W.heap.size, 0, none⟩) 1 1]).run Tryz.prog (W.alloc (.cells #[x0, x1, x2, x3] 125)) = .ok v' w' ∧ w'.ownsRow w0.heap.size 125 4 v' (k + 1) (xs ++ [x0, x1, x2, x3]) ∧ Kept (fun _ => False) w0 w' ∧ Kept (fun q => v.ownBlock = some q) W w' ∧ NewB W v v' := by
 obtain ⟨i0, hi, hz0, hz1, hz2⟩ := info_parts Tryz.info125
 obtain ⟨v', w', hr, h2', h3', h4, _⟩ := append_old (P := Tryz.prog) (W.alloc (.cells #[x0, x1, x2, x3] 125)) w0.heap.size 118 118 125 i0 _ 4 40 Tryz.underlying118 hi hz0 hz1 hz2 rfl (by decide) v k xs (h.alloc _) ⟨W.heap.size, 0, none⟩ 1 1 [x0, x1, x2, x3] (by simp) (fun j u hj => by
  have hjl := (List.getElem?_eq_some_iff.1 hj).1
  rw [Addr.add_lit, Nat.zero_add, cell_block _ _ _ _ _ _ (heap_alloc_new W _)]
  simpa using hj) (fun u hu => by
   simp at hu
   rcases hu with rfl | rfl | rfl | rfl <;> assumption) (by unfold maxLen; omega) (by omega) (by have := hk.size; simp; omega)
 have hk1 : Kept (fun k => v.ownBlock = some k) W w' := ((Kept.refl _ W).alloc _).grown h3' (fun k hk => .inr hk)
 exact ⟨v', w', hr, h2', hk.step hk1 (fun i hi e => by have := (h.lt i e).1; omega), hk1, by simpa [NewB] using h4⟩
def byts (l : List Int) : List Value := l.map (Value.int .u8)
theorem byts_snoc (l : List Int) (x : Int) : byts (l ++ [x]) = byts l ++ [.int .u8 x] := by simp [byts]
variable {I : Nat × ByteArray × Nat}
theorem own_iter {w : World} {base e s : Nat} {v : Value} {n : Nat} {xs : List Value} (h : w.ownsRow base e s v n xs) {B : Nat} {t : ByteArray} {p : Nat} (hb : w.heap[B]? = some (.stringIter t p)) : v.ownBlock ≠ some B := fun hq => by
 rcases h.2 with ⟨rfl, _⟩ | ⟨g, cap, cur, rfl, _, hgg, _⟩
 ·cases hq
 ·simp [Value.ownBlock] at hq
  subst hq
  rw [hb] at hgg
  cases hgg
theorem box_iter {w : World} {g B : Nat} {cs : Array Value} {t : TypeId} {f : Nat × Nat} {s : ByteArray} {p : Nat} (h : w.heap[g]? = some (.cells cs t f)) (hb : w.heap[B]? = some (.stringIter s p)) : B ≠ g := fun e => by
 rw [e, h] at hb
 cases hb
end Go.Proofs.YtpfmhibdmehlcaaGreatDoor
namespace Go.Proofs.YtpfmhibdmehlcaaGreatDoor
open Go.RowKit
set_option linter.unusedVariables false
set_option linter.unusedSimpArgs false
set_option maxRecDepth 100000
structure Pf where
 k : Int
 s : ByteArray
 n : Int
 f : Bool
def Pf.cells (p : Pf) : List Value := [.int .i64 p.k, .string p.s, .int .i64 p.n, .bool p.f]
def fcells (ps : List Pf) : List Value := ps.flatMap Pf.cells
theorem fcells_snoc (ps : List Pf) (p : Pf) : fcells (ps ++ [p]) = fcells ps ++ [.int .i64 p.k, .string p.s, .int .i64 p.n, .bool p.f] := by simp [fcells, Pf.cells]
structure Cg (I : Nat × ByteArray × Nat) (w wr : World) (c : Nat) (ps : List Pf) (st : Int) (un : List Int) (hi : Int) : Prop where
 ex : ∃ pv uv, wr.heap[c]? = some (.cells #[pv, .int .i64 st, uv, .int .i64 hi] 154 (0, 0)) ∧ wr.ownsRow w.heap.size 125 4 pv ps.length (fcells ps) ∧ wr.ownsRow w.heap.size 5 1 uv un.length (byts un)
 kept : Kept (fun _ => False) w wr
 lo : w.heap.size ≤ c
 it : wr.heap[I.1]? = some (.stringIter I.2.1 I.2.2)
 ilo : w.heap.size ≤ I.1
variable {I : Nat × ByteArray × Nat}
theorem Cg.same {w wr w' : World} {c : Nat} {ps : List Pf} {st : Int} {un : List Int} {hi : Int} (h : Cg I w wr c ps st un hi) (hk : Kept (fun _ => False) wr w') : Cg I w w' c ps st un hi := by
 obtain ⟨pv, uv, h1, h2, h3⟩ := h.ex
 exact ⟨⟨pv, uv, box_kept hk h1 id, hk.ownsRow h2 (fun _ _ f => f), hk.ownsRow h3 (fun _ _ f => f)⟩, h.kept.trans hk, h.lo, box_kept hk h.it id, h.ilo⟩
theorem Cg.setS {w wr : World} {c : Nat} {ps : List Pf} {st : Int} {un : List Int} {hi : Int} (h : Cg I w wr c ps st un hi) (x : Int) : Cg I w (wr.setCell ⟨c, 1, none⟩ (.int .i64 x)) c ps x un hi := by
 obtain ⟨pv, uv, h1, h2, h3⟩ := h.ex
 have hs := kept_set wr c 1 (.int .i64 x)
 exact ⟨⟨pv, uv, set_block _ _ 1 _ _ _ h1 _, hs.ownsRow h2 (fun q hq e => own_box2 h2 h1 (by decide) (by rw [hq, e])), hs.ownsRow h3 (fun q hq e => own_box2 h3 h1 (by decide) (by rw [hq, e]))⟩, h.kept.setCell (.inl h.lo) _, h.lo, box_kept hs h.it (box_iter h1 h.it), h.ilo⟩
set_option maxHeartbeats 4000000 in
theorem growG (c : Nat) (r : Int) (w wr : World) (ps : List Pf) (st : Int) (un : List Int) (hi : Int) (h : Cg I w wr c ps st un hi) (h0 : 0 ≤ r) (h1 : r < 256) (hl : un.length ≤ 900000) :
  Calls Tryz.prog 93 #[.pointer (some ⟨c, 0, none⟩), .int .i32 r] wr fun e w' => (∃ v, e = .returned v) ∧ Cg I w w' c ps st (un ++ [r]) hi := by
 obtain ⟨pv, uv, hb, hp, hu⟩ := h.ex
 obtain ⟨v', w', hr, ho, hk0, hk1, hn⟩ := push_byte hu (.int .u8 r) rfl h.kept hl
 have hb' := box_kept hk1 hb (fun e => own_box2 hu hb (by decide) e)
 have hp' := hk1.ownsRow hp (fun q hq e => own_two hu hp (by decide) q e hq)
 have hs := kept_set w' c 2 v'
 have H : Hid (Cg I w (w'.setCell ⟨c, 2, none⟩ v') c ps st (un ++ [r]) hi) := by
  refine ⟨⟨pv, v', set_block _ _ 2 _ _ _ hb' _, hs.ownsRow hp' (fun q hq e => own_box2 hp' hb' (by decide) (by rw [hq, e])), ?_⟩, hk0.setCell (.inl h.lo) _, h.lo, box_kept hs (box_kept hk1 h.it (own_iter hu h.it)) (box_iter hb' (box_kept hk1 h.it (own_iter hu h.it))), h.ilo⟩
  rw [List.length_append, byts_snoc]
  exact hs.ownsRow ho (fun q hq e => own_box2 ho hb' (by decide) (by rw [hq, e]))
 obtain ⟨a1, c1, hv1⟩ := ownsRow_shape hu
 obtain ⟨n1, hn1⟩ := nmd (un.length)
 rw [← hn1] at hv1
 subst hv1
 have q2 := cell_block _ _ 2 _ _ _ hb
 have q3 := cell_block _ _ 2 _ _ _ hb'
 have q4 := frozen_block _ _ 2 _ _ hb'
 have HR := hid_of hr
 obtain ⟨a2, c2, hv2⟩ := ownsRow_shape ho
 obtain ⟨n2, hn2⟩ := nmd (un.length + 1)
 rw [← hn2] at hv2
 subst hv2
 have hw8 : IntKind.wrap .u8 r = r := by simp [IntKind.wrap, IntKind.bits, IntKind.signed]; omega
 clear hr ho hk0 hk1 hn hp hu hp' hs hn1 hn2 hb hb' h hl
 go_enter Tryz.func93, Tryz.ntmps93
 go_wp2_with (at_builtin; refine wp_app2 rfl (.tmp 8) (.tmp 11) 22 22 rfl _ _ rfl rfl _ w' HR.out ?_)
 refine bodyPost_end (results_none rfl _ _ _) rfl ?_
 exact ⟨⟨_, rfl⟩, H.out⟩
set_option maxHeartbeats 8000000 in
theorem closeG (c : Nat) (k : Int) (tx : ByteArray) (n : Int) (f : Bool) (w wr : World) (ps : List Pf) (st : Int) (un : List Int) (hi : Int) (h : Cg I w wr c ps st un hi) (hl : ps.length ≤ 90000) :
  Calls Tryz.prog 98 #[.pointer (some ⟨c, 0, none⟩), .agg #[.int .i64 k, .string tx, .int .i64 n, .bool f]] wr fun e w' => (∃ v, e = .returned v) ∧ Cg I w w' c (ps ++ [⟨k, tx, n, f⟩]) 1 [] hi := by
 have hka : Kept (fun _ => False) wr (wr.alloc (.cells #[.int .i64 k, .string tx, .int .i64 n, .bool f] 125)) := (Kept.refl _ _).alloc _
 have hbx := heap_alloc_new wr (.cells #[.int .i64 k, .string tx, .int .i64 n, .bool f] 125)
 obtain ⟨pv, uv, hb0, hp0, hu0⟩ := h.ex
 have HNE : Hid (¬ (pv.ownBlock = some wr.heap.size ∨ wr.heap.size = c)) := fun e => by
  rcases e with e | e
  ·have := (hp0.lt _ e).2; omega
  ·have := (Array.getElem?_eq_some_iff.1 hb0).1; omega
 have HB := hid_of (box_kept hka hb0 id)
 have HP := hid_of (hka.ownsRow hp0 (fun _ _ f => f))
 have HK := hid_of (h.kept.trans hka)
 have HLO := hid_of h.lo
 have HIT := hid_of (box_kept hka h.it id)
 have HIL := hid_of h.ilo
 have HBX := hid_of hbx
 have HL := hid_of hl
 obtain ⟨a1, c1, hv1⟩ := ownsRow_shape hp0
 obtain ⟨n1, hn1⟩ := nmd (ps.length)
 rw [← hn1] at hv1
 subst hv1
 have HN1 := hid_of hn1
 clear h hka hbx hb0 hp0 hu0 hl hn1
 go_enter Tryz.func98, Tryz.ntmps98
 go_upto_region 1 with fail
 generalize wr.alloc (.cells #[.int .i64 k, .string tx, .int .i64 n, .bool f] 125) = w1 at *
 generalize wr.heap.size = gx at *
 have hKwd : Kept (fun _ => False) w1 w1.drew := (Kept.refl _ _).drew
 have HSM : Hid (∀ w', Kept (fun q => (Value.slice a1 n1 c1).ownBlock = some q ∨ q = c) w1 w' → w'.cell? ⟨gx, 0, none⟩ = some (.int .i64 k) ∧ w'.cell? ⟨gx, 1, none⟩ = some (.string tx) ∧ w'.cell? ⟨gx, 2, none⟩ = some (.int .i64 n) ∧ w'.cell? ⟨gx, 3, none⟩ = some (.bool f)) := fun w' hw =>
  ⟨hw.cell (cell_block _ _ 0 _ _ _ HBX.out) HNE.out, hw.cell (cell_block _ _ 1 _ _ _ HBX.out) HNE.out, hw.cell (cell_block _ _ 2 _ _ _ HBX.out) HNE.out, hw.cell (cell_block _ _ 3 _ _ _ HBX.out) HNE.out⟩
 refine wp_region_held_drew (S := fun w' => Kept (fun q => (Value.slice a1 n1 c1).ownBlock = some q ∨ q = c) w1 w') (by kernel_rfl) ((Kept.refl _ _).drew) (fun hHeld => ?_)
 generalize w1.drew = wd at *
 obtain ⟨v', w5, hr, ho, hk0, hk1, hn⟩ := push_piece (hKwd.ownsRow HP.out (fun _ _ f => f)) (.int .i64 k) (.string tx) (.int .i64 n) (.bool f) rfl rfl rfl rfl (HK.out.trans hKwd) HL.out
 have hbd := box_kept hKwd HB.out id
 have l0 := cell_block _ _ 0 _ _ _ hbd
 have hb5 := box_kept hk1 hbd (fun e => own_box2 (hKwd.ownsRow HP.out (fun _ _ f => f)) hbd (by decide) e)
 have HKS5 := hid_of ((hKwd.mono (T := fun q => (Value.slice a1 n1 c1).ownBlock = some q ∨ q = c) (fun _ _ f => f.elim)).trans (hk1.mono (fun _ _ e => .inl e)))
 have hs := kept_set w5 c 0 v'
 have HKS6 := hid_of (HKS5.out.setCell (p := ⟨c, 0, none⟩) (.inr (.inr rfl)) v')
 have HG1 := hid_of (And.intro (cell_block _ _ 0 _ _ _ hb5) (frozen_block _ _ 0 _ _ hb5))
 have HB6 := hid_of (set_block _ _ 0 _ _ _ hb5 v')
 have HP6 := hid_of (hs.ownsRow ho (fun q hq e => own_box2 ho hb5 (by decide) (by rw [hq, e])))
 have hit := box_kept hk1 (box_kept hKwd HIT.out id) (own_iter (hKwd.ownsRow HP.out (fun _ _ f => f)) (box_kept hKwd HIT.out id))
 have HI6 := hid_of (box_kept hs hit (box_iter hb5 hit))
 have HK6 := hid_of (hk0.setCell (p := ⟨c, 0, none⟩) (.inl HLO.out) v')
 obtain ⟨a2, c2, hv2⟩ := ownsRow_shape ho
 obtain ⟨n2, hn2⟩ := nmd (ps.length + 1)
 rw [← hn2] at hv2
 subst hv2
 have HR := hid_of hr
 clear hr ho hk0 hk1 hn hbd hb5 hs hn2 hit
 iterate 4
  refine tkn (v := ?_) 0 rfl ?_ ?_; rotate_left 1
  ·intro w hSw; go_simp; try with_reducible rfl
  try simp only [Act.put, tdy]
 iterate 1
  refine tkn (v := ?_) 5 rfl ?_ ?_; rotate_left 1
  ·intro w hSw; obtain ⟨s0, s1, s2, s3⟩ := HSM.out w hSw; go_simp; try with_reducible rfl
  try simp only [Act.put, tdy]
 refine (fun (hfin : ?G) => ?main) ?fin
 case main =>
  refine wpAnyH_ready (rs := [4, 6]) (by kernel_rfl) (by simp) ?_
  refine AllReadyH.cons rfl (fun K hK => ?_) (AllReadyH.cons rfl (fun K hK => ?_) AllReadyH.nil)
  ·have l1 := l0
   go_simp
   refine hK.out _ _ hHeld (fun hHeld => ?_)
   clear hK K
   try simp only [Act.put, tdy]
   clear l1
   refine rdy 6 rfl (fun K hK => ?_)
   go_simp
   refine hK.out _ _ (hHeld.alloc _) (fun hHeld => ?_)
   clear hK K
   try simp only [Act.put, tdy]
   refine rdy 7 rfl (fun K hK => ?_)
   refine step_app rfl (.tmp 8) (.tmp 10) 118 118 rfl _ _ rfl rfl (.slice a2 n2 c2) w5 HR.out ?_
   refine hK.out _ _ HKS5.out (fun hHeld => ?_)
   clear hK K
   try simp only [Act.put, tdy]
   iterate 2
    refine tkn (v := ?_) 8 rfl ?_ ?_; rotate_left 1
    ·intro w hSw; go_simp; try with_reducible rfl
    try simp only [Act.put, tdy]
   obtain ⟨g1, gf1⟩ := HG1.out
   refine rdy 10 rfl (fun K hK => ?_)
   go_simp
   refine hK.out _ _ HKS6.out (fun hHeld => ?_)
   clear hK K
   try simp only [Act.put, tdy]
   refine wpAnyH_done (by kernel_rfl) ?_ _
   exact hfin
  ·go_simp
   refine hK.out _ _ (hHeld.alloc _) (fun hHeld => ?_)
   clear hK K
   try simp only [Act.put, tdy]
   have l1 : (wd.alloc (.cells #[.int .i64 k, .string tx, .int .i64 n, .bool f] 125)).cell? ⟨c, 0, none⟩ = some (.slice a1 n1 c1) := ((Kept.refl (fun _ => False) wd).alloc _).cell l0 id
   refine rdy 4 rfl (fun K hK => ?_)
   go_simp
   refine hK.out _ _ hHeld (fun hHeld => ?_)
   clear hK K
   try simp only [Act.put, tdy]
   clear l1
   refine rdy 7 rfl (fun K hK => ?_)
   refine step_app rfl (.tmp 8) (.tmp 10) 118 118 rfl _ _ rfl rfl (.slice a2 n2 c2) w5 HR.out ?_
   refine hK.out _ _ HKS5.out (fun hHeld => ?_)
   clear hK K
   try simp only [Act.put, tdy]
   iterate 2
    refine tkn (v := ?_) 8 rfl ?_ ?_; rotate_left 1
    ·intro w hSw; go_simp; try with_reducible rfl
    try simp only [Act.put, tdy]
   obtain ⟨g1, gf1⟩ := HG1.out
   refine rdy 10 rfl (fun K hK => ?_)
   go_simp
   refine hK.out _ _ HKS6.out (fun hHeld => ?_)
   clear hK K
   try simp only [Act.put, tdy]
   refine wpAnyH_done (by kernel_rfl) ?_ _
   exact hfin
 clear l0 HSM HKS5 HKS6 HG1 HR hKwd hHeld
 generalize w5.setCell ⟨c, 0, none⟩ (.slice a2 n2 c2) = w6 at *
 have hb7 := set_block _ _ 2 _ _ _ HB6.out (.slice none 0 0)
 have hb8 := set_block _ _ 1 _ _ _ hb7 (.int .i64 1)
 have q0 := cell_block _ _ 2 _ _ _ HB6.out
 have q1 := frozen_block _ _ 2 _ _ HB6.out
 have q2 := cell_block _ _ 1 _ _ _ hb7
 have q3 := frozen_block _ _ 1 _ _ hb7
 have hs := (kept_set w6 c 2 (.slice none 0 0)).trans (kept_set _ c 1 (.int .i64 1))
 have H : Hid (Cg I w ((w6.setCell ⟨c, 2, none⟩ (.slice none 0 0)).setCell ⟨c, 1, none⟩ (.int .i64 1)) c (ps ++ [⟨k, tx, n, f⟩]) 1 [] hi) := by
  refine ⟨⟨_, _, hb8, ?_, World.ownsRow_nil _ _ _ _⟩, (HK6.out.setCell (.inl HLO.out) _).setCell (.inl HLO.out) _, HLO.out, box_kept hs HI6.out (box_iter HB6.out HI6.out), HIL.out⟩
  rw [List.length_append, fcells_snoc]
  exact hs.ownsRow HP6.out (fun q hq e => own_box2 HP6.out HB6.out (by decide) (by rw [hq, e]))
 clear hb7 hb8 hs
 go_wp2
 refine bodyPost_end (results_none rfl _ _ _) rfl ?_
 exact ⟨⟨_, rfl⟩, H.out⟩
end Go.Proofs.YtpfmhibdmehlcaaGreatDoor

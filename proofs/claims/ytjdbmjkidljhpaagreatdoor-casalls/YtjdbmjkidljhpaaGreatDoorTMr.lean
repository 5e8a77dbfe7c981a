/-
 Mr: Cseq, Cseq2.
-/
import Derived.Test.YtjdbmjkidljhpaaGreatDoorTMn
import Derived.Maps.RangeRun
import Derived.Great.BuildSlice
namespace Go.Proofs.YtjdbmjkidljhpaaGreatDoor
open Go.RowKit Go.Shelf
attribute [local go_sem] Oper.semAt_some
set_option linter.unusedVariables false
set_option linter.unusedSimpArgs false
set_option maxRecDepth 100000
section
variable {F : Fence} {n : Nat} {ops : Array Oper} {rest : List Oper} {o : Oper} {a : Act} {w : World} {Q : Exit → Act → World → Prop}
theorem inList_store_row (hgd : o.guard = none) (ty : TypeId) (x y : Operand) (ho : o.op = .store ty x y) (g : Nat) (cells : Array Value) (hx : a.eval x = .pointer (some ⟨g, 0, none⟩)) (hy : a.eval y = .agg cells) (t : TypeId) (old : Array Value) (hg : w.heap[g]? = some (.cells old t (0, 0))) (hi : (Tryz.prog.info? ty).map (·.size) = some cells.size) (hold : old.size = cells.size) (h1 : cells.all (·.oneCell') = true)
  (h : wpListIn F n Tryz.prog ops Q rest (a.put o.dst undef) (w.setRow g cells)) : wpListIn F n Tryz.prog ops Q (o :: rest) a w := by
 refine wpListIn_plain hgd fun K hK => ?_
 unfold Oper.wpIn
 refine ⟨?_, ?_⟩
 ·simp [Oper.about, ho]
 ·rw [Oper.semAt_plain F _ _ (by rw [ho]; intro c hc; cases hc)]
  simp only [execOp, ho, hx, hy, Instr.storeAt, Instr.sureAddr, Sem.run_bind, Sem.run_pure, Result.andThen_ok, run_storeVar_row w g t ty old cells hg hi hold h1]
  exact hK _ _ h
theorem inList_load28 (hgd : o.guard = none) (x : Operand) (ho : o.op = .load 29 x) (g : Nat) (hx : a.eval x = .pointer (some ⟨g, 0, none⟩)) (t : TypeId) (cs : Array Value) (fr : Nat × Nat) (hg : w.heap[g]? = some (.cells cs t fr)) (hi : (Tryz.prog.info? 29).map (·.size) = some cs.size)
  (h : wpListIn F n Tryz.prog ops Q rest (a.put o.dst (.agg cs)) w) : wpListIn F n Tryz.prog ops Q (o :: rest) a w := by
 refine wpListIn_plain hgd fun K hK => ?_
 unfold Oper.wpIn
 refine ⟨?_, ?_⟩
 ·simp [Oper.about, ho]
 ·rw [Oper.semAt_plain F _ _ (by rw [ho]; intro c hc; cases hc)]
  simp only [execOp, ho, hx, Instr.loadAt, Instr.sureAddr, Sem.run_bind, Sem.run_pure, Result.andThen_ok, run_loadVar_row w g t 29 cs fr _ hg Tryz.underlying29 rfl hi]
  exact hK _ _ h
end
theorem perm_nodup {α : Type} : ∀ {l m : List α}, l.Nodup → m.Nodup → (∀ x, x ∈ l ↔ x ∈ m) → l.Perm m
 | [], m, _, _, h => by
  cases m with
  | nil => exact List.Perm.nil
  | cons y m => exact absurd ((h y).2 (List.mem_cons_self ..)) (by simp)
 | x :: l, m, hl, hm, h => by
  obtain ⟨s, t, rfl⟩ := List.append_of_mem ((h x).1 (List.mem_cons_self ..))
  have hl' := List.nodup_cons.1 hl
  have hm' : (x :: (s ++ t)).Nodup := (List.perm_middle.nodup_iff).1 hm
  have hm2 := List.nodup_cons.1 hm'
  have ih : l.Perm (s ++ t) := perm_nodup hl'.2 hm2.2 (fun y => by
   have hy := h y
   constructor
   ·intro hyl
    have hne : y ≠ x := fun e => hl'.1 (e ▸ hyl)
    have := hy.1 (List.mem_cons_of_mem _ hyl)
    rcases List.mem_append.1 this with h1 | h1
    ·exact List.mem_append.2 (.inl h1)
    ·rcases List.mem_cons.1 h1 with h1 | h1
     ·exact absurd h1 hne
     ·exact List.mem_append.2 (.inr h1)
   ·intro hyst
    have hne : y ≠ x := fun e => hm2.1 (e ▸ hyst)
    have : y ∈ s ++ x :: t := by
     rcases List.mem_append.1 hyst with h1 | h1
     ·exact List.mem_append.2 (.inl h1)
     ·exact List.mem_append.2 (.inr (List.mem_cons_of_mem _ h1))
    rcases List.mem_cons.1 (hy.2 this) with h1 | h1
    ·exact absurd h1 hne
    ·exact h1)
  exact (List.Perm.cons x ih).trans List.perm_middle.symm
theorem nodup_of_map {α β : Type} (f : α → β) : ∀ {l : List α}, (l.map f).Nodup → l.Nodup
 | [], _ => List.nodup_nil
 | x :: l, h => by
  rw [List.map_cons, List.nodup_cons] at h
  exact List.nodup_cons.2 ⟨fun hx => h.1 (List.mem_map.2 ⟨x, hx, rfl⟩), nodup_of_map f h.2⟩
/-- A digest. -/
abbrev Dg := { d : List Int // d.length = 32 ∧ ∀ x ∈ d, 0 ≤ x ∧ x < 256 }
/-- Entries of a map. -/
abbrev Em (es : List En) := { e : En // e ∈ es }
def tk {es : List En} (hl : ∀ e ∈ es, e.k.length = 32 ∧ ∀ x ∈ e.k, 0 ≤ x ∧ x < 256) (x : Em es) : Dg := ⟨x.1.k, hl x.1 x.2⟩
theorem born_inj : ∀ {es : List En}, (es.map En.born).Nodup → ∀ {x y : En}, x ∈ es → y ∈ es → x.born = y.born → x = y
 | [], _, x, y, hx, _, _ => by cases hx
 | a :: es, h, x, y, hx, hy, e => by
  rw [List.map_cons, List.nodup_cons] at h
  rcases List.mem_cons.1 hx with h1 | h1
  ·rcases List.mem_cons.1 hy with h2 | h2
   ·rw [h1, h2]
   ·exact absurd (show a.born ∈ es.map En.born by rw [← h1, e]; exact List.mem_map.2 ⟨y, h2, rfl⟩) h.1
  ·rcases List.mem_cons.1 hy with h2 | h2
   ·exact absurd (show a.born ∈ es.map En.born by rw [← h2, ← e]; exact List.mem_map.2 ⟨x, h1, rfl⟩) h.1
   ·exact born_inj h.2 h1 h2 e
theorem ents_borns (es : List En) : ((es.map En.ent).toArray.toList.map (·.born)) = es.map En.born := by
 simp only [List.map_map]
 rfl
/-- All have come: those that came are the entries, in another order. -/
theorem all_come {es : List En} (hnd : (es.map En.born).Nodup) (hl : ∀ e ∈ es, e.k.length = 32 ∧ ∀ x ∈ e.k, 0 ≤ x ∧ x < 256) (ss : List (Em es)) (seen : Array Nat) (hs : seen.toList = ss.map (·.1.born)) (hn : (ss.map (·.1.born)).Nodup) (h0 : (leftOf (es.map En.ent).toArray seen).size = 0) : (ss.map (·.1)).Perm es := by
 refine perm_nodup ?_ ?_ (fun x => ⟨fun h => ?_, fun h => ?_⟩)
 ·refine nodup_of_map En.born ?_
  rw [List.map_map]
  exact hn
 ·exact nodup_of_map En.born hnd
 ·obtain ⟨y, _, rfl⟩ := List.mem_map.1 h
  exact y.2
 ·have h1 := all_seen _ seen h0 (En.ent x) (by simp; exact ⟨x, h, rfl⟩)
  have h2 : x.born ∈ seen.toList := by
   have := Array.contains_iff_mem.1 h1
   simpa [En.ent] using this
  rw [hs] at h2
  obtain ⟨y, hy, e⟩ := List.mem_map.1 h2
  have : y.1 = x := born_inj hnd y.2 h e
  exact List.mem_map.2 ⟨y, hy, this⟩
set_option maxHeartbeats 4000000 in
theorem keys_full (n : Nat) (hn : 1 ≤ n) (Bn r clock : Nat) (es : List En) (hl : ∀ e ∈ es, e.k.length = 32 ∧ ∀ x ∈ e.k, 0 ≤ x ∧ x < 256) (hb : ∀ b ∈ es.map En.born, b < clock) (hnd : (es.map En.born).Nodup) (w : World) (hBn : Bn < w.heap.size) (hrl : r < w.heap.size) (hc : w.cell? ⟨Bn, 0, none⟩ = some (.map (some r))) (hr : w.heap[r]? = some (.map (es.map En.ent).toArray clock)) :
  SeqStopsK Fence.wide n Tryz.prog 69 #[.pointer (some ⟨Bn, 0, none⟩)] (fun x : Dg => #[dv x.1]) KeepsWalks (fun ys => (ys.map (·.1)).Perm (es.map En.k)) (fun _ => True) es.length w := fun l J Jx W hW hJ hJx hY h0 => by
 have hc' : W.cell? ⟨Bn, 0, none⟩ = some (.map (some r)) := (hW.cell (p := ⟨Bn, 0, none⟩) hBn).trans hc
 have hr' : W.heap[r]? = some (.map (es.map En.ent).toArray clock) := (hW.block r hrl).trans hr
 have hrW : r < W.heap.size := heap_lt hr'
 have q1 : (Instr.range 63 (.map (some r))).run Tryz.prog W = .ok (.pointer (some ⟨W.heap.size, 0, none⟩)) (W.alloc (.mapIter (some r) clock #[] clock)) := run_range_map W 63 29 87 r _ clock Tryz.underlying63 hr'
 have H0 : Hid (J [] (W.alloc (.mapIter (some r) clock #[] clock)) ∧ (W.alloc (.mapIter (some r) clock #[] clock)).heap[r]? = some (.map (es.map En.ent).toArray clock) ∧ (W.alloc (.mapIter (some r) clock #[] clock)).heap[W.heap.size]? = some (.mapIter (some r) clock #[] clock)) :=
  ⟨hJ [] W _ none h0 (((Kept.refl (fun _ => False) W).alloc _).grow) (fun r e => by cases e), (((Kept.refl (fun _ => False) W).alloc _).block r hrW (fun f => f)).trans hr', alloc_new _ _ rfl⟩
 have HJ := hid_of hJ
 have HY := hid_of hY
 have HND := hid_of hnd
 have HL := hid_of hl
 have HB : Hid (∀ x ∈ ((es.map En.ent).toArray).toList, x.born < clock) := fun x hx => by
  obtain ⟨e, he, rfl⟩ := List.mem_map.1 (show x ∈ es.map En.ent by simpa using hx)
  exact hb _ (List.mem_map.2 ⟨e, he, rfl⟩)
 clear hW hJ hJx hY h0 hc hr hr' hb
 refine callsIn_of_wp Tryz.func69 rfl trivial ?_ rfl
 simp only [Tryz.ntmps69, List.size_toArray, List.length_cons, List.length_nil, Nat.reduceAdd, Nat.reduceSub, Array.replicate_succ, Array.replicate_zero, List.push_toArray, List.append_toArray, List.nil_append, List.cons_append]
 gi_wp2
 clear q1
 generalize W.alloc (.mapIter (some r) clock #[] clock) = W1 at *
 gi_loopw [3] (fun _ wr => ∃ (ss : List (Em es)) (seen : Array Nat) (c0 : Nat), wr.heap[W.heap.size]? = some (.mapIter (some r) clock seen c0) ∧ clock ≤ c0 ∧ wr.heap[r]? = some (.map (es.map En.ent).toArray clock) ∧ seen.toList = ss.map (·.1.born) ∧ (ss.map (·.1.born)).Nodup ∧ ss.length + (leftOf (es.map En.ent).toArray seen).size ≤ es.length ∧ J (ss.map (tk HL.out)) wr) (fun _ wr => wr.rangeLeft r W.heap.size)
 case atStart =>
  refine ⟨[], #[], clock, H0.out.2.2, Nat.le_refl _, H0.out.2.1, rfl, List.nodup_nil, ?_, H0.out.1⟩
  have := Array.size_filter_le (xs := (es.map En.ent).toArray) (p := fun e => !(#[] : Array Nat).contains e.born)
  simp [leftOf] at this ⊢
  exact this
 case round =>
  clear H0
  obtain ⟨ss, seen, c0, hit, hc0, hmap, hseen, hsn, hcnt, hj⟩ := hrel
  have HS := hid_of hseen
  have HSN := hid_of hsn
  have HJ1 := hid_of hj
  have HIT := hid_of hit
  have HMP := hid_of hmap
  clear hseen hsn hj
  rcases run_next_at (P := Tryz.prog) wr 0 W.heap.size r clock c0 seen _ clock hit hmap HB.out hc0 with ⟨hz, hrun⟩ | ⟨e', he', w1, hw1, hrun⟩
  ·have HZ := hid_of hz
   clear hit hmap hz
   gi_wp2
   go_end0
   exact ⟨⟨_, rfl⟩, .inl ⟨ss.map (tk HL.out), by
    have := (all_come HND.out HL.out ss seen HS.out HSN.out HZ.out).map En.k
    rw [List.map_map] at this ⊢
    exact this, HJ1.out⟩⟩
  ·obtain ⟨hm1, hm2⟩ := mem_left he'
   obtain ⟨e, he, rfl⟩ := List.mem_map.1 (show e' ∈ es.map En.ent by simpa using hm1)
   have hsh := left_shrinks _ seen _ he'
   have hpos : 0 < (leftOf (es.map En.ent).toArray seen).size := by
    have := List.length_pos_of_mem he'
    simpa using this
   have hw1h : w1.heap = wr.heap := by rcases hw1 with rfl | rfl <;> rfl
   have hw1o : w1.os = wr.os ∧ w1.tape = wr.tape ∧ w1.output = wr.output := by rcases hw1 with rfl | rfl <;> exact ⟨rfl, rfl, rfl⟩
   have hRlt : W.heap.size < wr.heap.size := heap_lt hit
   obtain ⟨w2, hw2⟩ : ∃ w2, w2 = ChangeMaps.setBlock w1 W.heap.size (.mapIter (some r) clock (seen.push (En.ent e).born) clock) := ⟨_, rfl⟩
   rw [← hw2] at hrun
   have h2it : w2.heap[W.heap.size]? = some (.mapIter (some r) clock (seen.push (En.ent e).born) clock) := by
    rw [hw2]
    simp [ChangeMaps.setBlock, hw1h, hRlt]
   have h2ot : ∀ k, k ≠ W.heap.size → w2.heap[k]? = wr.heap[k]? := fun k hk => by
    rw [hw2]
    simp [ChangeMaps.setBlock, hw1h, Array.getElem?_setIfInBounds, Ne.symm hk]
   have h2sz : w2.heap.size = wr.heap.size := by
    rw [hw2]
    simp [ChangeMaps.setBlock, hw1h]
   have hg2 : wr.grownBy w2 (some W.heap.size) := ⟨by rw [hw2]; exact hw1o.1, by rw [hw2]; exact hw1o.2.1, by rw [hw2]; exact hw1o.2.2, by rw [h2sz]; exact Nat.le_refl _, fun k hk hne => h2ot k (fun e => hne (by rw [e]))⟩
   have h2mp : w2.heap[r]? = some (.map (es.map En.ent).toArray clock) := (h2ot r (by omega)).trans hmap
   have hen := run_entry_at (P := Tryz.prog) w2 W.heap.size r clock seen _ clock (En.ent e) h2it h2mp hm1 (by rw [ents_borns]; exact HND.out)
   have hj2 := HJ.out _ wr w2 (some W.heap.size) HJ1.out hg2 (fun q hq => by cases hq; exact ⟨Nat.le_refl _, _, HIT.out, rfl⟩)
   have hkl := (HL.out e he).1
   have hds := size28_of e.k hkl
   have honed := oneCells .u8 e.k
   have HOD : Hid (32 = (e.k.map (Value.int .u8)).toArray.size) := by show 32 = _; simp [hkl]
   have hk3 := (Kept.refl (fun _ => False) w2).alloc (.cells (e.k.map (Value.int .u8)).toArray 29)
   have hj3 := HJ.out _ w2 (w2.alloc (.cells (e.k.map (Value.int .u8)).toArray 29)) none hj2 hk3.grow (fun q hq => by cases hq)
   have H3 : Hid ((w2.alloc (.cells (e.k.map (Value.int .u8)).toArray 29)).heap[W.heap.size]? = some (.mapIter (some r) clock (seen.push (En.ent e).born) clock) ∧ (w2.alloc (.cells (e.k.map (Value.int .u8)).toArray 29)).heap[r]? = some (.map (es.map En.ent).toArray clock)) := ⟨(hk3.block _ (heap_lt h2it) (fun f => f)).trans h2it, (hk3.block _ (heap_lt h2mp) (fun f => f)).trans h2mp⟩
   have HB3 : Hid ((w2.alloc (.cells (e.k.map (Value.int .u8)).toArray 29)).heap[w2.heap.size]? = some (.cells (e.k.map (Value.int .u8)).toArray 29 (0, 0))) := alloc_new _ _ rfl
   obtain ⟨fn, tmps, assign, body, hy0, hR⟩ := HY.out (ss.map (tk HL.out)) (tk HL.out ⟨e, he⟩) _ hj3 (by rw [List.length_map]; omega)
   have hy : (Instr.yield l #[.agg (e.k.map (Value.int .u8)).toArray]).run Tryz.prog (w2.alloc (.cells (e.k.map (Value.int .u8)).toArray 29)) = .ok (.round l fn tmps assign body) (w2.alloc (.cells (e.k.map (Value.int .u8)).toArray 29)) := hy0
   have hkey : (En.ent e).key = .agg (e.k.map (Value.int .u8)).toArray := rfl
   rw [hkey] at hrun hen
   have HCN := hid_of hcnt
   have HSH := hid_of hsh
   have HM2 := hid_of hm2
   have HM1 := hid_of hpos
   clear hit hmap he' hm1 hm2 hsh hw1 hw1h hw1o hw2 h2ot hg2 h2mp h2it hj2 hj3 hk3 hy0 hcnt hpos h2sz hkl
   gi_wp2_with (first | (refine inList_store_row rfl 29 _ _ rfl w2.heap.size (e.k.map (Value.int .u8)).toArray rfl rfl 29 _ (alloc_new _ _ rfl) hds HOD.out honed ?_; rw [setRow_new _ _ _ _ rfl]) | (refine inList_load28 rfl _ rfl w2.heap.size rfl 29 (e.k.map (Value.int .u8)).toArray (0, 0) HB3.out hds ?_))
   refine hR.mono ?_
   rintro e5 W5 (⟨rfl, hJ5, hk5⟩ | ⟨rfl, hJx5⟩)
   ·have H5 : Hid (W5.heap[W.heap.size]? = some (.mapIter (some r) clock (seen.push (En.ent e).born) clock) ∧ W5.heap[r]? = some (.map (es.map En.ent).toArray clock)) := ⟨hk5.same _ _ H3.out.1 rfl, hk5.same _ _ H3.out.2 rfl⟩
    have HJ5 := hid_of hJ5
    clear hk5 hJ5 hR hy hrun hen
    gi_wp2
    go_roundw
    case rel =>
     refine ⟨ss ++ [⟨e, he⟩], seen.push (En.ent e).born, clock, H5.out.1, Nat.le_refl _, H5.out.2, ?_, ?_, ?_, ?_⟩
     ·rw [Array.toList_push, HS.out, List.map_append]
      rfl
     ·rw [List.map_append]
      refine List.nodup_append.2 ⟨HSN.out, by simp, fun a ha b hb2 e3 => ?_⟩
      rw [List.map_cons, List.map_nil, List.mem_singleton] at hb2
      rw [← HS.out, e3, hb2] at ha
      have h7 : seen.contains e.born = true := Array.contains_iff_mem.2 (by simpa using ha)
      have h8 := HM2.out
      rw [show (En.ent e).born = e.born from rfl, h7] at h8
      cases h8
     ·have h7 := HSH.out
      have h8 := HCN.out
      rw [List.length_append, List.length_singleton]
      omega
     ·rw [List.map_append]
      exact HJ5.out
    case measure =>
     have h7 := HSH.out
     simp only [World.rangeLeft, H5.out.1, H5.out.2, HIT.out, HMP.out]
     exact h7
   ·have HJ5 := hid_of hJx5
    clear hJx5 hR hy hrun hen
    gi_wp2
    refine bodyPost_ret (results_none rfl _ _ _) rfl ?_
    exact ⟨⟨_, rfl⟩, .inr ⟨_, trivial, HJ5.out⟩⟩
end Go.Proofs.YtjdbmjkidljhpaaGreatDoor
namespace Go.Proofs.YtjdbmjkidljhpaaGreatDoor
open Go.RowKit Go.Shelf
attribute [local go_sem] Oper.semAt_some
set_option linter.unusedVariables false
set_option linter.unusedSimpArgs false
set_option maxRecDepth 100000
/-- A map in memory, stamped. -/
structure MapAt (w : World) (r clock : Nat) (es : List En) : Prop where
 blk : w.heap[r]? = some (.map (es.map En.ent).toArray clock)
 len : ∀ e ∈ es, e.k.length = 32 ∧ ∀ x ∈ e.k, 0 ≤ x ∧ x < 256
 low : ∀ b ∈ es.map En.born, b < clock
 nd : (es.map En.born).Nodup
theorem MapAt.kept {S : Nat → Prop} {w w' : World} {r clock : Nat} {es : List En} (h : MapAt w r clock es) (hk : Kept S w w') (hs : ¬ S r) : MapAt w' r clock es := ⟨(hk.block r (heap_lt h.blk) hs).trans h.blk, h.len, h.low, h.nd⟩
/-- Digests in a row. -/
def flatD : List Dg → List Value
 | [] => []
 | x :: xs => x.1.map (Value.int .u8) ++ flatD xs
theorem flatD_snoc : ∀ (xs : List Dg) (x : Dg), flatD (xs ++ [x]) = flatD xs ++ x.1.map (Value.int .u8)
 | [], x => by simp [flatD]
 | y :: xs, x => by rw [List.cons_append, flatD, flatD, flatD_snoc xs x, List.append_assoc]
theorem info28 : (Tryz.prog.info? 29).map (fun i => (i.zero, i.size, i.bytes)) = some (some (.agg (z32)), 32, 32) := by kernel_rfl
theorem info_part {i : Option TypeInfo} {z : Value} {s b : Nat} (h : i.map (fun i => (i.zero, i.size, i.bytes)) = some (some z, s, b)) : ∃ j, i = some j ∧ j.zero = some z ∧ j.size = s ∧ j.bytes = b := by
 cases i with
 | none => cases h
 | some j =>
  simp only [Option.map_some, Option.some.injEq, Prod.mk.injEq] at h
  exact ⟨j, rfl, h.1, h.2.1, h.2.2⟩
theorem foldD : ∀ (cs : List Value) (k : Nat) (init : Array Value), k + cs.length ≤ init.size → ∀ i, ((cs.zipIdx k).foldl (fun a x => a.setIfInBounds x.2 x.1) init)[i]? = if k ≤ i ∧ i < k + cs.length then cs[i - k]? else init[i]?
 | [], k, init, _, i => by
  rw [if_neg (by simp; try omega)]
  rfl
 | c :: cs, k, init, h, i => by
  rw [List.zipIdx_cons, List.foldl_cons, foldD cs (k + 1) _ (by simp at h ⊢; omega) i]
  simp only [List.length_cons]
  rw [Array.getElem?_setIfInBounds]
  by_cases e : k = i
  ·subst e
   rw [if_neg (by omega), if_pos rfl, if_pos (by simp at h; omega), if_pos (by omega), Nat.sub_self]
   rfl
  ·rw [if_neg e]
   by_cases e2 : k + 1 ≤ i ∧ i < k + 1 + cs.length
   ·rw [if_pos e2, if_pos (by omega), show i - k = (i - (k + 1)) + 1 by omega]
    rfl
   ·rw [if_neg e2, if_neg (by omega)]
theorem fillD (cs : List Value) (init : Array Value) (hl : cs.length = 32) (hi : init.size = 32) : Instr.fill (fun i => some (i * 32, 32)) init [(0, .agg cs.toArray)] = some cs.toArray := by
 have hf : (cs.zipIdx.foldl (fun a x => a.setIfInBounds x.2 x.1) init) = cs.toArray := by
  apply Array.ext_getElem?
  intro i
  rw [foldD cs 0 init (by omega) i]
  by_cases h : 0 ≤ i ∧ i < 0 + cs.length
  ·rw [if_pos h]
   simp
  ·rw [if_neg h, Array.getElem?_eq_none (by omega), Array.getElem?_eq_none (by simp; omega)]
 simp [Instr.fill, Value.cells, hl, hi, hf]
section
variable {F : Fence} {n : Nat} {ops : Array Oper} {rest : List Oper} {o : Oper} {a : Act} {w : World} {Q : Exit → Act → World → Prop}
theorem inList_build28 (hg : o.guard = none) (x : Operand) (ho : o.op = .buildSlice 89 1 #[(0, x)]) (cs : List Value) (hx : a.eval x = .agg cs.toArray) (hl : cs.length = 32)
  (h : wpListIn F n Tryz.prog ops Q rest (a.put o.dst (.slice (some ⟨w.heap.size, 0, none⟩) 1 1)) (w.alloc (.cells cs.toArray 29))) : wpListIn F n Tryz.prog ops Q (o :: rest) a w := by
 obtain ⟨i0, hi, hz0, hz1, hz2⟩ := info_part info28
 have e : (#[(0, x)].map fun (i, y) => (i, a.eval y)).toList = [(0, .agg cs.toArray)] := by rw [← hx]; simp
 have hr := run_buildSlice (P := Tryz.prog) w 89 29 1 (#[(0, x)].map fun (i, y) => (i, a.eval y)) cs.toArray i0 _ Tryz.underlying89 hi hz0 (by rw [hz1]; decide) (by rw [hz1]; decide) (by rw [e, hz1]; exact fillD cs _ hl (by simp))
 refine wpListIn_plain hg fun K hK => ?_
 unfold Oper.wpIn
 refine ⟨?_, ?_⟩
 ·simp [Oper.about, ho]
 ·rw [Oper.semAt_plain F _ _ (by rw [ho]; intro c hc; cases hc)]
  simp only [execOp, ho, Sem.run_bind, hr, Result.andThen_ok]
  exact hK _ _ h
end
theorem owns_stayD {B : Nat} {A C : World} {rw : Option Nat} {base e sz n : Nat} {v : Value} {xs : List Value} (ho : A.ownsRow base e sz v n xs) (hg : A.grownBy C rw) (hr : ∀ r, rw = some r → B ≤ r ∧ ∃ o : Obj, A.heap[r]? = some o ∧ o.isCells = false) : C.ownsRow base e sz v n xs := by
 refine ho.kept hg ?_
 rcases ho.2 with ⟨hv, _⟩ | ⟨g, cap, cur, hv, _, hb, _⟩
 ·left; rw [hv]; rfl
 ·right
  intro e1
  rw [hv] at e1
  obtain ⟨_, o, h1, h2⟩ := hr g e1.symm
  rw [hb] at h1
  cases h1
  cases h2
theorem own_slice {w : World} {b e s n : Nat} {v : Value} {xs : List Value} (h : w.ownsRow b e s v (n + 1) xs) : ∃ g c, v = .slice (some ⟨g, 0, none⟩) (n + 1) c := by
 rcases h.2 with ⟨_, h1⟩ | ⟨g, cap, cur, h1, _⟩
 ·omega
 ·exact ⟨g, cap, h1⟩
/-- A range over a function whose variable lies in a block of its own. -/
theorem rangeD {F : Fence} {n : Nat} {α : Type} {g : Operand} {ps : Array Tmp} {assign body : Code} {Q : Exit → Act → World → Prop} {a : Act} {w : World}
  (hro : F.round = none) (h1 : 1 ≤ n) {gf : Nat} {lb : Array Value} (hg : a.eval g = .func (.func gf) #[] lb) (hFg : F.fn gf) (eg : ∀ args w, (callFunc gf args).run Tryz.prog w = .ok (.enter gf args) w)
  {encs : α → Array Value} {S Sp : List α → Prop} {N : Nat} {w0 : World} (hseq : SeqStopsK F (n - 1) Tryz.prog gf lb encs KeepsWalks S Sp N w0) (hb0 : Below w0.heap.size w0 w) (hps : ∀ x, (encs x).size = ps.size)
  (I : List α → World → Prop) (Ix : Code → List α → World → Prop) (hI : OwnFrom w.heap.size I) (hIx : ∀ c, OwnFrom w.heap.size (Ix c)) (h0 : I [] w) (hsz : ∀ pre W, I pre W → w.heap.size ≤ W.heap.size) (cs : α → Array Value) (tm : α → Nat → Array Value)
  (hassign : ∀ (l : Nat) (x : α) (W : World) (K : Act → World → Prop), K { tmps := tm x W.heap.size, defers := [] } (W.alloc (.cells (cs x) 29)) →
   assign.wpIn (F.inRound l) (n - 1 - 1) Tryz.prog (Exit.then K (fun _ _ _ => False)) { tmps := (ps.zip (encs x)).foldl (fun t (p, v) => t.setIfInBounds p v) a.tmps, defers := [] } W)
  (hbody : ∀ (l : Nat) (pre : List α) (x : α) (B : Nat) (W : World), w.heap.size ≤ l → (∃ r, W.heap[l]? = some (.loop r)) → I pre W → w.heap.size ≤ B → W.heap[B]? = some (.cells (cs x) 29 (0, 0)) → pre.length < N → body.wpIn (F.inRound l) (n - 1 - 1) Tryz.prog (ownPostG w.heap.size KeepsWalks I Ix (pre ++ [x]) W) { tmps := tm x B, defers := [] } W)
  (hdone : ∀ (D : Nat) (xs : List α) (W : World), w.heap.size ≤ D → S xs → I xs W → W.heap[D]? = some (.deferred (some [])) → Q .normal { a with defers := { target := .collected D, args := #[] } :: a.defers } W)
  (hstop : ∀ (D : Nat) (c : Code) (pre : List α) (W : World), w.heap.size ≤ D → Sp pre → Ix c pre W → W.heap[D]? = some (.deferred (some [])) → c.wpIn F n Tryz.prog Q { a with defers := { target := .collected D, args := #[] } :: a.defers } W) :
  (Code.rangeFunc g ps assign body).wpIn F n Tryz.prog Q a w :=
 wpIn_rangeFunc_ownH hro h1 hg hFg eg hseq (fun h k => h.trans k) (fun W l o o' _ hl _ hw => KeepsWalks.putObj o' hl hw) hb0 hps I Ix hI hIx h0
  (fun x a' W => ∃ B, w.heap.size ≤ B ∧ a' = { tmps := tm x B, defers := [] } ∧ W.heap[B]? = some (.cells (cs x) 29 (0, 0)))
  (fun x a' _ W W' row h hg hr => by
   obtain ⟨B, hB, ha, hb⟩ := h
   refine ⟨B, hB, ha, (hg.block B (heap_lt hb) (fun e => ?_)).trans hb⟩
   obtain ⟨_, o, h1, h2⟩ := hr B e.symm
   rw [hb] at h1
   cases h1
   cases h2)
  (fun l pre x W K hi hK => hassign l x W K (hK _ _ ((KeepsOthers.alloc W _).from _) (KeepsWalks.alloc W _) (hI.alloc _ hi) ⟨W.heap.size, hsz pre W hi, rfl, alloc_new _ _ rfl⟩))
  (fun l pre x a' W hl hr hi ha hlt => by
   obtain ⟨B, hB, rfl, hb⟩ := ha
   exact hbody l pre x B W hl hr hi hB hb hlt) hdone hstop
set_option maxHeartbeats 4000000 in
theorem aseq_full (Bn r clock : Nat) (es : List En) (w : World) (hM : MapAt w r clock es) (hn : es.length ≤ 1000000000) (hBn : Bn < w.heap.size) (hc : w.cell? ⟨Bn, 0, none⟩ = some (.map (some r))) :
  Calls Tryz.prog 77 #[.slice none 0 0, .func (.func 69) #[] #[.pointer (some ⟨Bn, 0, none⟩)]] w fun e w' => ∃ v, ∃ ys : List Dg, e = .returned v ∧ (ys.map (·.1)).Perm (es.map En.k) ∧ w'.ownsRow w.heap.size 29 32 v ys.length (flatD ys) ∧ Kept (fun _ => False) w w' := by
 refine (callsIn_wide (n := 3)).1 ?_
 refine callsIn_of_wp_marks Tryz.func77 rfl trivial ?_ rfl
 simp only [Tryz.ntmps77, List.size_toArray, List.length_cons, List.length_nil, Nat.reduceAdd, Nat.reduceSub, Array.replicate_succ, Array.replicate_zero, List.push_toArray, List.append_toArray, List.nil_append, List.cons_append]
 gi_wp2
 have b0 := Boxed.new w 89 (.slice none 0 0)
 have hB0 := (Below.refl w.heap.size w).alloc (Nat.le_refl _) (.cells #[.slice none 0 0] 89)
 have hk0 : Kept (fun _ => False) w (w.alloc (.cells #[.slice none 0 0] 89)) := (Kept.refl _ w).alloc _
 have hcc : (w.alloc (.cells #[.slice none 0 0] 89)).cell? ⟨Bn, 0, none⟩ = some (.map (some r)) := hk0.cell hc (fun f => f)
 have hM0 := hM.kept hk0 (fun f => f)
 obtain ⟨W0, hW0⟩ : ∃ W0, w.alloc (.cells #[.slice none 0 0] 89) = W0 := ⟨_, rfl⟩
 have hsz : W0.heap.size = w.heap.size + 1 := by rw [← hW0]; simp
 rw [hW0] at b0 hB0 hcc hM0 ⊢
 clear hW0 hk0
 refine rangeD rfl (by omega) (gf := 69) (lb := #[.pointer (some ⟨Bn, 0, none⟩)]) rfl trivial (enters_of Tryz.func69 (by kernel_rfl) rfl)
  (keys_full 2 (by omega) Bn r clock es hM0.len hM0.low hM0.nd W0 (by omega) (heap_lt hM0.blk) hcc hM0.blk) (Below.refl _ _) (fun x => rfl)
  (fun pre W => ∃ v, (w.heap.size + 1 ≤ W.heap.size ∧ Boxed W w.heap.size 89 v) ∧ W.ownsRow w.heap.size 29 32 v pre.length (flatD pre) ∧ Below w.heap.size w W)
  (fun _ _ _ => False) ?hI ?hIx ?h0 ?hsz (fun x => (x.1.map (Value.int .u8)).toArray)
  (fun x B => #[.slice none 0 0, .func (.func 69) #[] #[.pointer (some ⟨Bn, 0, none⟩)], .pointer (some ⟨w.heap.size, 0, none⟩), undef, .slice none 0 0, .pointer (some ⟨B, 0, none⟩), .func (.func 69) #[] #[.pointer (some ⟨Bn, 0, none⟩)], .agg (x.1.map (Value.int .u8)).toArray, undef, undef, undef, undef, undef])
  ?assign ?body ?done ?stop
 case hI =>
  rintro pre A C rw ⟨v, ⟨hbs, hv⟩, ho, hB⟩ hg hr
  exact ⟨v, ⟨Nat.le_trans hbs hg.size, box_stay hv hg hr⟩, owns_stayD ho hg hr, hB.grown hg hB.size (fun k e => by have := (hr k e).1; omega)⟩
 case hIx => exact fun _ _ _ _ _ h _ _ => h
 case h0 => exact ⟨_, ⟨by omega, b0⟩, World.ownsRow_nil _ _ _ _, hB0⟩
 case hsz => rintro pre W ⟨v, ⟨h, _⟩, _⟩; omega
 case assign =>
  intro l x W K hK
  have hds := size28_of x.1 x.2.1
  have honed := oneCells .u8 x.1
  have HOD : Hid (32 = (x.1.map (Value.int .u8)).toArray.size) := by show 32 = _; simp [x.2.1]
  gi_wp2_with (refine inList_store_row rfl 29 _ _ rfl W.heap.size (x.1.map (Value.int .u8)).toArray rfl rfl 29 _ (alloc_new _ _ rfl) hds HOD.out honed ?_; rw [setRow_new _ _ _ _ rfl])
  exact hK
 case body =>
  rintro l pre x B W hl hlr ⟨v, ⟨hbs, hv⟩, ho, hB⟩ hBge hb hlt
  have hcv := hv.cell
  have hds := size28_of x.1 x.2.1
  have HX : Hid ((x.1.map (Value.int .u8)).length = 1 * 32) := by show _ = _; simp [x.2.1]
  obtain ⟨i0, hi, hz0, hz1, hz2⟩ := info_part info28
  have HO := hid_of ho
  have HV := hid_of hv
  have HB := hid_of hB
  have HBB := hid_of hb
  clear ho hv hB hb
  gi_wp2_with (first
   | (refine inList_load28 rfl _ rfl B rfl 29 _ (0, 0) HBB.out hds ?_)
   | (refine inList_build28 rfl _ rfl (x.1.map (Value.int .u8)) rfl HX.out ?_)
   | (refine wpListIn_append_own _ rfl _ _ 89 rfl w.heap.size 29 i0 _ 32 32 Tryz.underlying89 hi hz0 hz1 hz2 rfl (by decide) v pre.length (flatD pre) rfl (HO.out.alloc _) ⟨W.heap.size, 0, none⟩ 1 1 (x.1.map (Value.int .u8)) rfl HX.out (fun j u hj => by rw [Addr.add_mid, cell_block _ _ _ _ _ _ (alloc_new _ _ rfl), Nat.zero_add]; simpa using hj) (fun u hu => by obtain ⟨y, _, rfl⟩ := List.mem_map.1 hu; rfl) (by unfold maxLen; omega) (by omega) (by simp; omega) ?_; intro v' w' ho' hg' hv'; obtain ⟨g', c', rfl⟩ := own_slice ho'; have hap := HV.out.appended (by decide) HO.out (by omega) (Nat.le_refl _) ho' hg'; have hcx := hap.1.cell; have hfx := hap.1.frozen; have HAP := hid_of hap.2; clear hap ho' hg' hv'))
  refine ⟨HAP.out.2.2.1.from _, ⟨HAP.out.2.2.1.size, fun k o hk hw => HAP.out.2.2.1.same k o hk (Obj.not_cells_of_walk hw)⟩, _, ⟨Nat.le_trans hbs HAP.out.2.2.1.size, HAP.out.1⟩, ?_, HB.out.trans HAP.out.2.2.2⟩
  rw [flatD_snoc, List.length_append]
  exact HAP.out.2.1
 case done =>
  rintro D ys W hD hS ⟨v, ⟨hbs, hv⟩, ho, hB⟩ hK
  have hc := hv.cell
  have HB := hid_of hB
  have HK := hid_of hK
  have HO := hid_of ho
  clear hB hK ho
  gi_wp2
  refine ⟨by simp, .inl ⟨_, _, rfl, run_takeDeferred HK.out, ?_⟩⟩
  refine ⟨_, results_tmp rfl _ _ _, v, ys, rfl, hS, ownsRow_putObj HO.out _ HK.out rfl, ?_⟩
  have hk := HB.out
  refine ⟨hk.os, hk.tape, hk.output, ?_, fun k hkk _ => (World.putObj_heap_other (by omega)).trans (hk.block k hkk)⟩
  have := hk.size
  simpa [World.putObj] using this
 case stop =>
  rintro D c pre W _ _ h _
  exact h.elim
end Go.Proofs.YtjdbmjkidljhpaaGreatDoor

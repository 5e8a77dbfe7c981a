import Derived.Test.YtcahibbfejomcaaGreatDoorTTx6
import Derived.Shelf.Lay
import Derived.Shelf.LaysM
import Derived.Shelf.LaysC
import Derived.Shelf.Small.Wraps
import Derived.Shelf.Strconv.Itoa3
import Derived.Shelf.Strconv.ParseIntPublic10
import Derived.Shelf.Strconv.AppendIntPublic10
import Derived.Shelf.Strings.Prefix
import Derived.Shelf.Strings.Split
import Derived.Shelf.Strings.AsciiSet
import Derived.Deep.RegionHeld3
import Derived.Deep.MidRow
import Derived.Deep.AppendSrc
import Derived.Laws.ResultCell
namespace Go.Proofs.YtcahibbfejomcaaGreatDoor
open Go.RowKit
set_option linter.unusedVariables false
set_option linter.unusedSimpArgs false
set_option maxRecDepth 100000
theorem built63 : Tryz.prog.built 172 (tparts sysL) = some (tcells sysL).toArray := by kernel_rfl
theorem size63 : (Tryz.prog.info? 172).map (·.size) = some (tcells sysL).toArray.size := by kernel_rfl
section
variable {ops : Array Oper} {o : Oper} {a : Act} {w : World} {Q : Exit → Act → World → Prop} {rest : List Oper}
theorem wpList_tab63 (hg : o.guard = none) (parts : Array (Nat × Operand)) (ho : o.op = .build 172 parts) (e : (parts.map fun (i, x) => (i, a.eval x)).toList = tparts sysL)
  (h : wpList Tryz.prog ops Q rest (a.put o.dst (.agg (tcells sysL).toArray)) w) : wpList Tryz.prog ops Q (o :: rest) a w := by
 refine wpList_build hg 172 _ ho (by rw [e, built63]; rfl) ?_
 rw [e, built63]
 exact h
end
set_option maxHeartbeats 4000000 in
theorem sys_any (w : World) : Calls Tryz.prog 89 #[] w fun e w' => e = .returned (.agg (tcells sysL).toArray) ∧ Kept (fun _ => False) w w' := by
 obtain ⟨hO, hX, hK⟩ := new_row w z63 (tcells sysL).toArray 172
 go_enter Tryz.func89, Tryz.ntmps89
 go_wp2_with (first | refine wpList_to rfl (some 0) rfl (.pointer (some ⟨w.heap.size, 0, none⟩)) (w.alloc (.cells z63 172)) (by kernel_rfl) ?_ | refine wpList_tab63 rfl _ rfl (by kernel_rfl) ?_ | refine wpList_store_row rfl 172 _ _ rfl w.heap.size (tcells sysL).toArray rfl rfl 172 _ hO size63 (by kernel_rfl) one63 ?_)
 refine bodyPost_ret (v := .agg (tcells sysL).toArray) ?_ rfl ⟨rfl, hK⟩
 exact results_cell_row (by rfl) _ _ w.heap.size 172 _ (0, 0) _ (by rfl) hX Tryz.underlying172 rfl size63
set_option maxHeartbeats 4000000 in
theorem row_any (L : List Sh) (g t : Nat) (n : Int) (w : World) (hg : w.heap[g]? = some (.cells (tcells L).toArray t (0, 0))) (hn0 : -9223372036854775808 ≤ n) (hn1 : n < 9223372036854775808) (hL : L.length ≤ 46) :
  Calls Tryz.prog 88 #[.slice (some ⟨g, 0, none⟩) L.length L.length, .int .i64 n] w fun e w' => e = .returned (.tuple #[.agg (rowS L n).cells.toArray, .bool (isRow L n)]) ∧ Kept (fun _ => False) w w' := by
 by_cases h : 0 ≤ n ∧ n < (L.length : Int)
 ·obtain ⟨k, rfl⟩ : ∃ k : Nat, n = k := ⟨n.toNat, by omega⟩
  have hkl : k < L.length := by omega
  have hr : Hid (rowS L (k : Int) = L.getD k Sh.none ∧ isRow L (k : Int) = true) := by
   unfold Hid rowS isRow
   rw [if_pos h, decide_eq_true h]
   exact ⟨by simp, rfl⟩
  generalize hs : L.getD k Sh.none = s at *
  have hc : ∀ j v, s.cells[j]? = some v → w.cell? ⟨g, k * 4 + j, none⟩ = some v := fun j v hv => by
   have hj : j < 4 := by
    have := (List.getElem?_eq_some_iff.1 hv).1
    simpa [Sh.cells] using this
   rw [cell_block _ _ _ _ _ _ hg]
   have := tcells_get L k j hkl hj
   rw [hs, hv] at this
   simpa using this
  have hrg : (w.alloc (.cells Sh.none.cells.toArray 148)).rangeAt g (k * 4) s.cells := fun j v hv => ((Kept.refl (fun _ => False) w).alloc _).cell (hc j v hv) id
  have hk0 : (0 : Int) ≤ (k : Int) := h.1
  have hk1 : (k : Int) < (L.length : Int) := h.2
  have hk2 : ¬ ((k : Int) < 0) := by omega
  obtain ⟨hO, hX, hK⟩ := new_row w (Sh.none.cells.toArray) s.cells.toArray 148
  clear hn0 hn1 hs hc h hg
  generalize L.length = N at *
  go_enter Tryz.func88, Tryz.ntmps88
  go_wp2_with (first | refine wpList_load_mid rfl 148 _ rfl g (k * 4) rfl s.cells _ hrg Tryz.underlying148 rfl size24 ?_ | refine wpList_store_row rfl 148 _ _ rfl w.heap.size s.cells.toArray rfl rfl 148 _ hO size24 rfl (sh_one s) ?_)
  refine bodyPost_ret (v := .tuple #[.agg s.cells.toArray, .bool true]) ?_ rfl ⟨by rw [hr.out.1, hr.out.2], hK⟩
  exact results_row_tmp (by rfl) _ _ ⟨w.heap.size, 0, none⟩ _ _ (by rfl) (by rfl) (run_loadVar_row _ w.heap.size 148 148 _ (0, 0) _ hX Tryz.underlying148 rfl size24)
 ·have hr : Hid (rowS L n = Sh.none ∧ isRow L n = false) := by
   unfold Hid rowS isRow
   rw [if_neg h, decide_eq_false h]
   exact ⟨rfl, rfl⟩
  obtain ⟨hO, hX, hK⟩ := new_row w (Sh.none.cells.toArray) Sh.none.cells.toArray 148
  have hd : (decide (n < 0) || decide ((L.length : Int) ≤ n)) = true := by
   rw [Bool.or_eq_true, decide_eq_true_iff, decide_eq_true_iff]
   omega
  clear h hg
  generalize L.length = N at *
  have HX := hid_of (heap_alloc2_old w (.cells Sh.none.cells.toArray 148) (.cells Sh.none.cells.toArray 148))
  have HK := hid_of (((Kept.refl (fun _ => False) w).alloc (.cells Sh.none.cells.toArray 148)).alloc (.cells Sh.none.cells.toArray 148))
  clear hO hX hK
  go_enter Tryz.func88, Tryz.ntmps88
  go_wp2
  all_goals
   refine bodyPost_ret (v := .tuple #[.agg Sh.none.cells.toArray, .bool false]) ?_ rfl ⟨by rw [hr.out.1, hr.out.2], HK.out⟩
   exact results_row_tmp (by rfl) _ _ ⟨w.heap.size, 0, none⟩ _ _ (by rfl) (by rfl) (run_loadVar_row _ w.heap.size 148 148 _ (0, 0) _ HX.out Tryz.underlying148 rfl size24)
set_option maxHeartbeats 4000000 in
theorem of_any (n : Int) (w : World) (hn0 : -9223372036854775808 ≤ n) (hn1 : n < 9223372036854775808) :
  Calls Tryz.prog 70 #[.int .i64 n] w fun e w' => e = .returned (.tuple #[.agg (rowS insL n).cells.toArray, .bool (isRow insL n)]) ∧ Kept (fun _ => False) w w' := by
 have hB0 := heap_alloc_new w (.cells Sh.none.cells.toArray 148)
 have hK0 : Kept (fun _ => False) w (w.alloc (.cells Sh.none.cells.toArray 148)) := (Kept.refl _ _).alloc _
 go_enter Tryz.func70, Tryz.ntmps70
 go_wp2_with fail
 refine (ins_any _).mono ?_
 rintro e w1 ⟨rfl, hk1⟩
 have HB1 := hid_of (box_kept hk1 hB0 id)
 have HK1 := hid_of (hK0.trans hk1)
 clear hB0 hk1 hK0
 obtain ⟨hO, hX, hK⟩ := new_row w1 z57 (tcells insL).toArray 149
 go_upto_region 2 with (first | refine wpList_to rfl (some 4) rfl (.pointer (some ⟨w1.heap.size, 0, none⟩)) (w1.alloc (.cells z57 149)) (by kernel_rfl) ?_ | refine wpList_store_row rfl 149 _ _ rfl w1.heap.size (tcells insL).toArray rfl rfl 149 _ hO size57 (by kernel_rfl) one57 ?_)
 clear hO
 generalize (w1.alloc (.cells z57 149)).setRow w1.heap.size (tcells insL).toArray = w2 at *
 have HB2 := hid_of (box_kept hK HB1.out id)
 have HK2 := hid_of (HK1.out.trans hK)
 have HR := hid_of (row_any insL w1.heap.size 149 n w2 hX hn0 hn1 (by decide))
 clear hK HB1 HK1
 go_wp2_with fail
 refine HR.out.mono ?_
 rintro e w3 ⟨rfl, hk3⟩
 have HK3 := hid_of (HK2.out.trans hk3)
 have hB3 := box_kept hk3 HB2.out id
 clear hk3 HR HB2 HK2 hX
 obtain ⟨s, hs⟩ : ∃ s, rowS insL n = s := ⟨_, rfl⟩
 obtain ⟨b, hb⟩ : ∃ b, isRow insL n = b := ⟨_, rfl⟩
 rw [hs, hb]
 have HS := hid_of hs
 have HB := hid_of hb
 clear hs hb
 have HX := hid_of (setRow_heap w3 w.heap.size _ s.cells.toArray 148 (0, 0) hB3)
 have HKX := hid_of (HK3.out.step (kept_row w3 w.heap.size s.cells.toArray) (fun i hi e => by omega))
 go_wp2_with (refine wpList_store_row rfl 148 _ _ rfl w.heap.size s.cells.toArray rfl rfl 148 _ hB3 size24 rfl (sh_one s) ?_)
 refine bodyPost_ret (v := .tuple #[.agg s.cells.toArray, .bool b]) ?_ rfl ⟨by rw [HS.out, HB.out], HKX.out⟩
 exact results_row_tmp (by rfl) _ _ ⟨w.heap.size, 0, none⟩ _ _ (by rfl) (by rfl) (run_loadVar_row _ w.heap.size 148 148 _ (0, 0) _ HX.out Tryz.underlying148 rfl size24)
set_option maxHeartbeats 4000000 in
theorem sysof_any (n : Int) (w : World) (hn0 : -9223372036854775808 ≤ n) (hn1 : n < 9223372036854775808) :
  Calls Tryz.prog 71 #[.int .i64 n] w fun e w' => e = .returned (.tuple #[.agg (rowS sysL n).cells.toArray, .bool (isRow sysL n)]) ∧ Kept (fun _ => False) w w' := by
 have hB0 := heap_alloc_new w (.cells Sh.none.cells.toArray 148)
 have hK0 : Kept (fun _ => False) w (w.alloc (.cells Sh.none.cells.toArray 148)) := (Kept.refl _ _).alloc _
 go_enter Tryz.func71, Tryz.ntmps71
 go_wp2_with fail
 refine (sys_any _).mono ?_
 rintro e w1 ⟨rfl, hk1⟩
 have HB1 := hid_of (box_kept hk1 hB0 id)
 have HK1 := hid_of (hK0.trans hk1)
 clear hB0 hk1 hK0
 obtain ⟨hO, hX, hK⟩ := new_row w1 z63 (tcells sysL).toArray 172
 go_upto_region 2 with (first | refine wpList_to rfl (some 4) rfl (.pointer (some ⟨w1.heap.size, 0, none⟩)) (w1.alloc (.cells z63 172)) (by kernel_rfl) ?_ | refine wpList_store_row rfl 172 _ _ rfl w1.heap.size (tcells sysL).toArray rfl rfl 172 _ hO size63 (by kernel_rfl) one63 ?_)
 clear hO
 generalize (w1.alloc (.cells z63 172)).setRow w1.heap.size (tcells sysL).toArray = w2 at *
 have HB2 := hid_of (box_kept hK HB1.out id)
 have HK2 := hid_of (HK1.out.trans hK)
 have HR := hid_of (row_any sysL w1.heap.size 172 n w2 hX hn0 hn1 (by decide))
 clear hK HB1 HK1
 go_wp2_with fail
 refine HR.out.mono ?_
 rintro e w3 ⟨rfl, hk3⟩
 have HK3 := hid_of (HK2.out.trans hk3)
 have hB3 := box_kept hk3 HB2.out id
 clear hk3 HR HB2 HK2 hX
 obtain ⟨s, hs⟩ : ∃ s, rowS sysL n = s := ⟨_, rfl⟩
 obtain ⟨b, hb⟩ : ∃ b, isRow sysL n = b := ⟨_, rfl⟩
 rw [hs, hb]
 have HS := hid_of hs
 have HB := hid_of hb
 clear hs hb
 have HX := hid_of (setRow_heap w3 w.heap.size _ s.cells.toArray 148 (0, 0) hB3)
 have HKX := hid_of (HK3.out.step (kept_row w3 w.heap.size s.cells.toArray) (fun i hi e => by omega))
 go_wp2_with (refine wpList_store_row rfl 148 _ _ rfl w.heap.size s.cells.toArray rfl rfl 148 _ hB3 size24 rfl (sh_one s) ?_)
 refine bodyPost_ret (v := .tuple #[.agg s.cells.toArray, .bool b]) ?_ rfl ⟨by rw [HS.out, HB.out], HKX.out⟩
 exact results_row_tmp (by rfl) _ _ ⟨w.heap.size, 0, none⟩ _ _ (by rfl) (by rfl) (run_loadVar_row _ w.heap.size 148 148 _ (0, 0) _ HX.out Tryz.underlying148 rfl size24)
end Go.Proofs.YtcahibbfejomcaaGreatDoor
namespace Go.Proofs.YtcahibbfejomcaaGreatDoor
open Go.RowKit
set_option linter.unusedVariables false
set_option linter.unusedSimpArgs false
set_option maxRecDepth 100000
def pk : Nat → List Bool → List Oper → Option (Oper × List Bool × Nat)
 | k + 1, b :: bs, _ :: os => match pk k bs os with | some (x, l, i) => some (x, b :: l, i + 1) | none => none
 | 0, true :: bs, _ :: os => match pk 0 bs os with | some (x, l, i) => some (x, true :: l, i + 1) | none => none
 | 0, false :: bs, o :: _ => some (o, true :: bs, 0)
 | _, _, _ => none
theorem pk_spec : ∀ (os : List Oper) (k : Nat) (bs : List Bool) (x : Oper) (l : List Bool) (i : Nat), pk k bs os = some (x, l, i) → os[i]? = some x ∧ l = bs.set i true
 | [], k, bs, x, l, i, h => by cases k <;> cases bs <;> simp [pk] at h
 | o :: os, k, [], x, l, i, h => by cases k <;> simp [pk] at h
 | o :: os, k + 1, b :: bs, x, l, i, h => by
  rw [pk] at h
  cases e : pk k bs os with
  | none => rw [e] at h; cases h
  | some y =>
   obtain ⟨y, m, j⟩ := y
   rw [e] at h
   cases h
   obtain ⟨h1, h2⟩ := pk_spec os k bs _ _ _ e
   exact ⟨by simpa using h1, by rw [h2]; rfl⟩
 | o :: os, 0, true :: bs, x, l, i, h => by
  rw [pk] at h
  cases e : pk 0 bs os with
  | none => rw [e] at h; cases h
  | some y =>
   obtain ⟨y, m, j⟩ := y
   rw [e] at h
   cases h
   obtain ⟨h1, h2⟩ := pk_spec os 0 bs _ _ _ e
   exact ⟨by simpa using h1, by rw [h2]; rfl⟩
 | o :: os, 0, false :: bs, x, l, i, h => by
  rw [pk] at h
  cases h
  exact ⟨rfl, rfl⟩
theorem pk_at {ops : Array Oper} {listed : Array Bool} {k i : Nat} {x : Oper} {l : List Bool} (h : pk k listed.toList ops.toList = some (x, l, i)) : ops[i]? = some x ∧ listed.setIfInBounds i true = l.toArray := by
 obtain ⟨h1, h2⟩ := pk_spec _ _ _ _ _ _ h
 refine ⟨by rw [← Array.getElem?_toList]; exact h1, ?_⟩
 apply Array.ext'
 rw [Array.toList_setIfInBounds, h2]
theorem tkn {P : Program} {ops : Array Oper} {Q : Exit → Act → World → Prop} {md : Region.Mode} {S : World → Prop} {oi : Oper} {v : Value} {fuel i : Nat} {listed : Array Bool} {bs : List Bool} {a : Act} {w : World} (k : Nat) (hi : pk k listed.toList ops.toList = some (oi, bs, i)) (hy : ∀ w : World, S w → Sem.run P (execOp a.eval oi) w = Result.ok (Next.value v) w) (h : wpAnyH P md ops Q S fuel bs.toArray (a.put oi.dst v) w)
  (hs : Region.noSelect ops = true := by kernel_rfl) (hf : Region.free md ops listed i = true := by kernel_rfl) (hr : (Region.ready md ops listed).contains i = true := by kernel_rfl) (hQ : ∀ c a w, Q (.panic c) (a.put oi.dst v) w → Q (.panic c) a w := by exact fun _ _ _ h => h) (hw : Region.wanted oi (yielded ops a.tmps) = true := by rfl) (hS : S w := by assumption) : wpAnyH P md ops Q S (fuel + 1) listed a w :=
 wpAnyH_take (pk_at hi).1 hs hf hr hQ (Or.inl ⟨hw, hy⟩) hS (by rw [(pk_at hi).2]; exact h)
theorem rdy {P : Program} {md : Region.Mode} {ops : Array Oper} {Q : Exit → Act → World → Prop} {S : World → Prop} {fuel : Nat} {listed : Array Bool} {a : Act} {w : World} (i : Nat) {o : Oper} (ho : ops[i]? = some o) (h : ∀ K' : Act → World → Prop, Shut (∀ a w, S w → (S w → wpAnyH P md ops Q S fuel (listed.setIfInBounds i true) a w) → K' a w) → if Region.wanted o (yielded ops a.tmps) = true then Oper.wp P o a w K' Q else K' (a.put o.dst undef) w) (hr : Region.ready md ops listed = [i] := by kernel_rfl) : wpAnyH P md ops Q S (fuel + 1) listed a w := wpAnyH_ready hr (by simp) (AllReadyH.cons ho h AllReadyH.nil)
theorem tdy : (∀ {α : Type} {xs : List α} {i : Nat} (h : i < xs.toArray.size), xs.toArray[i] = xs[i]'(by simpa using h)) ∧ (∀ {α : Type} (l : List α) (i : Nat) (a : α), l.toArray.setIfInBounds i a = (l.set i a).toArray) ∧ (∀ {α : Type} {a : α} {t : List α} (h : 0 < (a :: t).length), (a :: t)[0] = a) ∧ (∀ {α : Type} {a : α} {t : List α} {i : Nat} (h : i + 1 < (a :: t).length), (a :: t)[i + 1] = t[i]'(by simpa using h)) ∧ (∀ {α : Type} {a b : α} {t : List α}, (a :: t).set 0 b = b :: t) ∧ (∀ {α : Type} {a b : α} {t : List α} {n : Nat}, (a :: t).set (n + 1) b = a :: t.set n b) :=
 ⟨fun _ => rfl, fun _ _ _ => by simp, fun _ => rfl, fun _ => rfl, rfl, rfl⟩
theorem own_box2 {w : World} {base e s : Nat} {v : Value} {n : Nat} {xs : List Value} (h : w.ownsRow base e s v n xs) {B t : Nat} {cs : Array Value} (hb : w.heap[B]? = some (.cells cs t (0, 0))) (hne : t ≠ e) : v.ownBlock ≠ some B := fun hq => by
 rcases h.2 with ⟨rfl, _⟩ | ⟨g, cap, cur, rfl, _, hgg, _⟩
 ·cases hq
 ·simp [Value.ownBlock] at hq
  subst hq
  rw [hb] at hgg
  simp at hgg
  exact hne hgg.2
theorem own_two {w : World} {b e s b' e' s' : Nat} {v v' : Value} {n n' : Nat} {xs xs' : List Value} (h : w.ownsRow b e s v n xs) (h' : w.ownsRow b' e' s' v' n' xs') (hne : e ≠ e') : ∀ q, v.ownBlock = some q → v'.ownBlock ≠ some q := fun q hq hq' => by
 rcases h.2 with ⟨rfl, _⟩ | ⟨g, cap, cur, rfl, _, hgg, _⟩
 ·cases hq
 ·simp [Value.ownBlock] at hq
  subst hq
  exact own_box2 h' hgg hne hq'
theorem look3 {w : World} {g : Nat} {t : TypeId} {a b c : Value} (h : w.heap[g]? = some (.cells #[a, b, c] t (0, 0))) : w.cell? ⟨g, 0, none⟩ = some a ∧ w.cell? ⟨g, 1, none⟩ = some b ∧ w.cell? ⟨g, 2, none⟩ = some c ∧ w.frozen? ⟨g, 0, none⟩ = false ∧ w.frozen? ⟨g, 1, none⟩ = false ∧ w.frozen? ⟨g, 2, none⟩ = false :=
 ⟨cell_block _ _ 0 _ _ _ h, cell_block _ _ 1 _ _ _ h, cell_block _ _ 2 _ _ _ h, frozen_block _ _ 0 _ _ h, frozen_block _ _ 1 _ _ h, frozen_block _ _ 2 _ _ h⟩
theorem set4 (w : World) (g : Nat) (t : TypeId) (a0 a1 a2 a3 x0 x1 x2 x3 : Value) (h : w.heap[g]? = some (.cells #[a0, a1, a2, a3] t (0, 0))) :
  ((((w.setCell ⟨g, 0, none⟩ x0).setCell ⟨g, 1, none⟩ x1).setCell ⟨g, 2, none⟩ x2).setCell ⟨g, 3, none⟩ x3).heap[g]? = some (.cells #[x0, x1, x2, x3] t (0, 0)) ∧ Kept (fun k => k = g) w ((((w.setCell ⟨g, 0, none⟩ x0).setCell ⟨g, 1, none⟩ x1).setCell ⟨g, 2, none⟩ x2).setCell ⟨g, 3, none⟩ x3) := by
 have h1 := set_block _ _ 0 _ _ _ h x0
 have h2 := set_block _ _ 1 _ _ _ h1 x1
 have h3 := set_block _ _ 2 _ _ _ h2 x2
 have h4 := set_block _ _ 3 _ _ _ h3 x3
 exact ⟨h4, (((kept_set w g 0 x0).trans (kept_set _ g 1 x1)).trans (kept_set _ g 2 x2)).trans (kept_set _ g 3 x3)⟩
theorem set3 (w : World) (g : Nat) (t : TypeId) (a0 a1 a2 x0 x1 x2 : Value) (h : w.heap[g]? = some (.cells #[a0, a1, a2] t (0, 0))) :
  (((w.setCell ⟨g, 0, none⟩ x0).setCell ⟨g, 1, none⟩ x1).setCell ⟨g, 2, none⟩ x2).heap[g]? = some (.cells #[x0, x1, x2] t (0, 0)) ∧ Kept (fun k => k = g) w (((w.setCell ⟨g, 0, none⟩ x0).setCell ⟨g, 1, none⟩ x1).setCell ⟨g, 2, none⟩ x2) := by
 have h1 := set_block _ _ 0 _ _ _ h x0
 have h2 := set_block _ _ 1 _ _ _ h1 x1
 have h3 := set_block _ _ 2 _ _ _ h2 x2
 exact ⟨h3, ((kept_set w g 0 x0).trans (kept_set _ g 1 x1)).trans (kept_set _ g 2 x2)⟩
theorem step_app {P : Program} {w : World} {ops : Array Oper} {o : Oper} {a : Act} {K : Act → World → Prop} {Q : Exit → Act → World → Prop} {E : Prop} (hg : o.guard = none) (s x : Operand) (t u : TypeId)
  (ho : o.op = .call { callee := .builtin .append, args := #[s, x], argTypes := #[t, u] }) (v bv : Value) (hs : a.eval s = v) (hx : a.eval x = bv) (v' : Value) (w' : World)
  (hr : (Builtin.append_ #[t, u] o.type #[v, bv]).run P w = .ok v' w') (h : K (a.put o.dst v') w') :
  if Region.wanted o (yielded ops a.tmps) = true then Oper.wp P o a w K Q else E := by
 have hw : Region.wanted o (yielded ops a.tmps) = true := by simp [Region.wanted, hg]
 rw [if_pos hw]
 unfold Oper.wp
 simp [execOp, ho, resolve, invoke, builtin, hs, hx, hr, Result.andThen]
 exact h
section
variable {P : Program} {ops : Array Oper} {o : Oper} {a : Act} {w : World} {K : Act → World → Prop} {Q : Exit → Act → World → Prop} {E : Prop}
end
theorem look4 {w : World} {g : Nat} {t : TypeId} {a b c d : Value} (h : w.heap[g]? = some (.cells #[a, b, c, d] t (0, 0))) : w.cell? ⟨g, 0, none⟩ = some a ∧ w.cell? ⟨g, 1, none⟩ = some b ∧ w.cell? ⟨g, 2, none⟩ = some c ∧ w.cell? ⟨g, 3, none⟩ = some d ∧ w.frozen? ⟨g, 0, none⟩ = false ∧ w.frozen? ⟨g, 1, none⟩ = false ∧ w.frozen? ⟨g, 2, none⟩ = false ∧ w.frozen? ⟨g, 3, none⟩ = false :=
 ⟨cell_block _ _ 0 _ _ _ h, cell_block _ _ 1 _ _ _ h, cell_block _ _ 2 _ _ _ h, cell_block _ _ 3 _ _ _ h, frozen_block _ _ 0 _ _ h, frozen_block _ _ 1 _ _ h, frozen_block _ _ 2 _ _ h, frozen_block _ _ 3 _ _ h⟩
end Go.Proofs.YtcahibbfejomcaaGreatDoor
namespace Go.Proofs
open Go.Shelf Go.RowKit Go.Deep Go.ChangeShapes
shelf_lay Lays.n103 Nm 103 at Tryz as Tryz.lays103
theorem Tryz.strings_CutPrefix (s p : ByteArray) (w : World) :
  Calls Tryz.prog 133 #[.string s, .string p] w fun e w' => e = .returned (.tuple #[.string ⟨(Lib.trimPrefix s.data.toList p.data.toList).toArray⟩, .bool (Lib.hasPrefix s.data.toList p.data.toList)]) ∧ w' = w := Any.strings_CutPrefix Tryz.lays103 s p w
shelf_lay LaysM.n171 Nm 171 at Tryz as Tryz.laysM171
shelf_lay LaysC.n174 Nm 174 at Tryz as Tryz.laysC174
theorem Tryz.strconv_ParseInt_10_at64_ok (s : ByteArray) (hmax : s.size ≤ 9223372036854775806) (v : Int) (h : Lib.parseIntB 64 s.data.toList = .ok v) (w : World) :
  Calls Tryz.prog 136 #[.string s, .int .i64 10, .int .i64 64] w fun e w' => e = .returned (.tuple #[.int .i64 v, .nilIface]) ∧ (w' = w ∨ ∃ t, w' = Lib.bytesWorld w 5 t) := Any.strconv_ParseInt_10_at64_ok Tryz.laysC174 s hmax v h w
shelf_lay LaysM.n176 Nm 176 at Tryz as Tryz.laysM176
theorem Tryz.strconv_AppendInt_10 (B n : Nat) (i : Int) (h0 : -9223372036854775808 ≤ i) (h1 : i ≤ 9223372036854775807) (sv : Value) (xs : List Value) (w : World) (hown : w.ownsRow B 5 1 sv n xs) (hBw : B ≤ w.heap.size) (hlim : n + 21 ≤ 140737488355328) (htab : Lib.TabBelow Tryz.prog B w "internal/strconv.uint64pow10" .u64 Lib.pow10Tab) :
  Calls Tryz.prog 52 #[sv, .int .i64 i, .int .i64 10] w fun e w' => ∃ v', e = .returned v' ∧ w'.ownsRow B 5 1 v' (n + (Lib.itoa i).length) (xs ++ Lib.byteCells (Lib.itoa i)) ∧ Below B w w' ∧ Lib.OthersKept 5 none w w' := Any.strconv_AppendInt_10 Tryz.laysM176 B n i h0 h1 sv xs w hown hBw hlim htab
shelf_lay Lays.n101 Nm 101 at Tryz as Tryz.lays101
theorem Tryz.strings_TrimPrefix (s p : ByteArray) (w : World) :
  Calls Tryz.prog 138 #[.string s, .string p] w fun e w' => e = .returned (.string ⟨(Lib.trimPrefix s.data.toList p.data.toList).toArray⟩) ∧ w' = w := Any.strings_TrimPrefix Tryz.lays101 s p w
shelf_lay Lays.n146 Nm 146 at Tryz as Tryz.lays146
theorem Tryz.strings_Split (s sep : ByteArray) (m : Int) (w : World) (hs : s.size < 4294967281) (hm : w.cell? ⟨1, 0, none⟩ = some (.int .i64 m)) (h1 : 1 ≤ sep.size) :
  Calls Tryz.prog 41 #[.string s, .string sep] w fun e w' =>
   e = .returned (.slice (some ⟨w.heap.size, 0, none⟩) (Lib.countB s sep + 1) (Lib.countB s sep + 1)) ∧ w' = w.alloc (.cells ((Lib.splitB sep 0 (Lib.countB s sep) s).map Value.string).toArray 9) := Any.strings_Split Tryz.lays146 (by kernel_rfl) s sep m w hs hm h1
shelf_lay Lays.n227 Nm 227 at Tryz as Tryz.lays227
shelf_lay Lays.n228 Nm 228 at Tryz as Tryz.lays228
end Go.Proofs
namespace Go.Proofs.YtcahibbfejomcaaGreatDoor
open Go.RowKit
end Go.Proofs.YtcahibbfejomcaaGreatDoor

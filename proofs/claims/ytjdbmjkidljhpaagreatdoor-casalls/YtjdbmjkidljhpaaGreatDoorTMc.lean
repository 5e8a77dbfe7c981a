/-
 Mc: Hash, Write, Of, Known.
-/
import Derived.Test.YtjdbmjkidljhpaaGreatDoorTMb
import Derived.Laws.CopyRow
import Derived.Laws.IdiomCopy
import Derived.Lib.SmallJoins
namespace Go.Proofs.YtjdbmjkidljhpaaGreatDoor
open Go.RowKit
set_option linter.unusedVariables false
set_option maxRecDepth 100000
set_option linter.unusedSimpArgs false
/-- A state as a value. -/
abbrev S8.lit (s : S8) : Value := .agg #[.int .u32 s.a, .int .u32 s.b, .int .u32 s.c, .int .u32 s.d, .int .u32 s.e, .int .u32 s.f, .int .u32 s.g, .int .u32 s.h]
def Hsh.cells (h : Hsh) : List Value := [.int .u32 h.p.a, .int .u32 h.p.b, .int .u32 h.p.c, .int .u32 h.p.d, .int .u32 h.p.e, .int .u32 h.p.f, .int .u32 h.p.g, .int .u32 h.p.h] ++ (h.t.map (Value.int .u8) ++ [.int .i64 (h.n : Int)])
/-- A Hash with these fields lies in that block. -/
def HashIs (w : World) (g : Nat) (h : Hsh) : Prop := w.heap[g]? = some (.cells h.cells.toArray 128 (0, 0)) ∧ h.t.length = 64 ∧ ∀ x ∈ h.t, 0 ≤ x ∧ x < 256
/-- One that has taken these bytes. -/
def HashAt (w : World) (g : Nat) (xs : List Int) : Prop := ∃ h, HashIs w g h ∧ h.Of xs
theorem Hsh.size (h : Hsh) (hl : h.t.length = 64) : h.cells.toArray.size = 73 := by simp [Hsh.cells, hl]
theorem HashIs.len {w : World} {g : Nat} {h : Hsh} (H : HashIs w g h) : w.cell? ⟨g, 72, none⟩ = some (.int .i64 (h.n : Int)) := by
 rw [cell_block _ _ _ _ _ _ H.1]
 simp [Hsh.cells, H.2.1, List.getElem?_append]
theorem HashIs.fz {w : World} {g : Nat} {h : Hsh} (H : HashIs w g h) (i : Nat) : w.frozen? ⟨g, i, none⟩ = false := frozen_block _ _ _ _ _ H.1
theorem HashIs.tail {w : World} {g : Nat} {h : Hsh} (H : HashIs w g h) : w.rangeAt g 8 (h.t.map (Value.int .u8)) := by
 intro j v hv
 have hj : j < 64 := by have := (List.getElem?_eq_some_iff.1 hv).1; simpa [H.2.1] using this
 rw [cell_block _ _ _ _ _ _ H.1, Hsh.cells, List.getElem?_toArray, List.getElem?_append_right (by simp), List.getElem?_append_left (by simp [H.2.1]; omega)]
 simpa using hv
theorem HashIs.past {w : World} {g : Nat} {h : Hsh} (H : HashIs w g h) (i : Nat) (hi : i < 8) : w.cell? ⟨g, i, none⟩ = ([.int .u32 h.p.a, .int .u32 h.p.b, .int .u32 h.p.c, .int .u32 h.p.d, .int .u32 h.p.e, .int .u32 h.p.f, .int .u32 h.p.g, .int .u32 h.p.h] : List Value)[i]? := by
 rw [cell_block _ _ _ _ _ _ H.1, Hsh.cells, List.getElem?_toArray, List.getElem?_append_left (by simpa using hi)]
theorem HashIs.kept {S : Nat → Prop} {w w' : World} {g : Nat} {h : Hsh} (H : HashIs w g h) (hk : Kept S w w') (hs : ¬ S g) : HashIs w' g h :=
 ⟨(hk.block g (Array.getElem?_eq_some_iff.1 H.1).1 hs).trans H.1, H.2⟩
theorem HashIs.setn {w : World} {g : Nat} {h : Hsh} (H : HashIs w g h) (m : Nat) : HashIs (w.setCell ⟨g, 72, none⟩ (.int .i64 (m : Int))) g { h with n := m } := by
 refine ⟨?_, H.2⟩
 rw [set_block _ _ _ _ _ _ H.1]
 congr 2
 rw [List.setIfInBounds_toArray]
 congr 1
 simp only [Hsh.cells]
 rw [List.set_append_right _ _ (by simp), List.set_append_right _ _ (by simp [H.2.1])]
 simp [H.2.1]
theorem set_list {w : World} {g : Nat} {l : List Value} {t : TypeId} {f : Nat × Nat} (H : w.heap[g]? = some (.cells l.toArray t f)) (i : Nat) (u : Value) : (w.setCell ⟨g, i, none⟩ u).heap[g]? = some (.cells (l.set i u).toArray t f) := by
 rw [set_block _ _ _ _ _ _ H, List.setIfInBounds_toArray]
theorem HashIs.setp {w : World} {g : Nat} {h : Hsh} (H : HashIs w g h) (s : S8) : HashIs ((((((((w.setCell ⟨g, 0, none⟩ (.int .u32 s.a)).setCell ⟨g, 1, none⟩ (.int .u32 s.b)).setCell ⟨g, 2, none⟩ (.int .u32 s.c)).setCell ⟨g, 3, none⟩ (.int .u32 s.d)).setCell ⟨g, 4, none⟩ (.int .u32 s.e)).setCell ⟨g, 5, none⟩ (.int .u32 s.f)).setCell ⟨g, 6, none⟩ (.int .u32 s.g)).setCell ⟨g, 7, none⟩ (.int .u32 s.h)) g { h with p := s } := by
 refine ⟨?_, H.2⟩
 have := (set_list (set_list (set_list (set_list (set_list (set_list (set_list (set_list H.1 0 (.int .u32 s.a)) 1 (.int .u32 s.b)) 2 (.int .u32 s.c)) 3 (.int .u32 s.d)) 4 (.int .u32 s.e)) 5 (.int .u32 s.f)) 6 (.int .u32 s.g)) 7 (.int .u32 s.h))
 simp only [Hsh.cells, List.cons_append, List.set_cons_zero, List.set_cons_succ] at this
 exact this
theorem start_lit (w : World) : Calls Tryz.prog 98 #[] w fun e w' => e = .returned s0.lit ∧ Kept (fun _ => False) w w' := start_any w
theorem turned_lit (s : S8) (bs : List Int) (hl : bs.length = 64) (hr : ∀ x ∈ bs, 0 ≤ x ∧ x < 256) (w : World) (hL : Laid w) :
  Calls Tryz.prog 82 #[s.lit, .agg (bs.map (Value.int .u8)).toArray] w fun e w' => e = .returned (turn s bs).lit ∧ Kept (fun _ => False) w w' := turned_any s bs hl hr w hL
set_option maxRecDepth 100000 in
set_option maxHeartbeats 1000000 in
theorem state_any (g : Nat) (h : Hsh) (w : World) (H : HashIs w g h) (hn : h.n < 4611686018427387904) :
  Calls Tryz.prog 81 #[.pointer (some ⟨g, 0, none⟩)] w fun e w' => e = .returned h.now.lit ∧ Kept (fun _ => False) w w' := by
 have hc := H.len
 have c0 := H.past 0 (by decide)
 have c1 := H.past 1 (by decide)
 have c2 := H.past 2 (by decide)
 have c3 := H.past 3 (by decide)
 have c4 := H.past 4 (by decide)
 have c5 := H.past 5 (by decide)
 have c6 := H.past 6 (by decide)
 have c7 := H.past 7 (by decide)
 simp only [List.getElem?_cons_zero, List.getElem?_cons_succ] at c0 c1 c2 c3 c4 c5 c6 c7
 have hgs : g < w.heap.size := (Array.getElem?_eq_some_iff.1 H.1).1
 have hst := start_lit (w.alloc (.cells #[.int .u32 0, .int .u32 0, .int .u32 0, .int .u32 0, .int .u32 0, .int .u32 0, .int .u32 0, .int .u32 0] 125))
 by_cases hlt : h.n < 64
 ·have hI : (h.n : Int) < 64 := by omega
  have hX : h.now = s0 := by unfold Hsh.now; rw [if_pos hlt]
  have HX := hid_of hX
  clear hX
  go_enter Tryz.func81, Tryz.ntmps81
  go_wp2_with fail
  refine hst.mono ?_
  rintro e w1 ⟨rfl, hk⟩
  have hB := (hk.block w.heap.size (by simp) (fun f => f)).trans (alloc_new w _ rfl)
  have hK := ((Kept.refl _ w).alloc _).trans hk
  have HB := hid_of hB
  have HK := hid_of hK
  have d0 : w1.cell? ⟨w.heap.size, 0, none⟩ = some (.int .u32 0) := cell_block _ _ _ _ _ _ hB
  have f0 : w1.frozen? ⟨w.heap.size, 0, none⟩ = false := frozen_block _ _ _ _ _ hB
  have d1 : w1.cell? ⟨w.heap.size, 1, none⟩ = some (.int .u32 0) := cell_block _ _ _ _ _ _ hB
  have f1 : w1.frozen? ⟨w.heap.size, 1, none⟩ = false := frozen_block _ _ _ _ _ hB
  have d2 : w1.cell? ⟨w.heap.size, 2, none⟩ = some (.int .u32 0) := cell_block _ _ _ _ _ _ hB
  have f2 : w1.frozen? ⟨w.heap.size, 2, none⟩ = false := frozen_block _ _ _ _ _ hB
  have d3 : w1.cell? ⟨w.heap.size, 3, none⟩ = some (.int .u32 0) := cell_block _ _ _ _ _ _ hB
  have f3 : w1.frozen? ⟨w.heap.size, 3, none⟩ = false := frozen_block _ _ _ _ _ hB
  have d4 : w1.cell? ⟨w.heap.size, 4, none⟩ = some (.int .u32 0) := cell_block _ _ _ _ _ _ hB
  have f4 : w1.frozen? ⟨w.heap.size, 4, none⟩ = false := frozen_block _ _ _ _ _ hB
  have d5 : w1.cell? ⟨w.heap.size, 5, none⟩ = some (.int .u32 0) := cell_block _ _ _ _ _ _ hB
  have f5 : w1.frozen? ⟨w.heap.size, 5, none⟩ = false := frozen_block _ _ _ _ _ hB
  have d6 : w1.cell? ⟨w.heap.size, 6, none⟩ = some (.int .u32 0) := cell_block _ _ _ _ _ _ hB
  have f6 : w1.frozen? ⟨w.heap.size, 6, none⟩ = false := frozen_block _ _ _ _ _ hB
  have d7 : w1.cell? ⟨w.heap.size, 7, none⟩ = some (.int .u32 0) := cell_block _ _ _ _ _ _ hB
  have f7 : w1.frozen? ⟨w.heap.size, 7, none⟩ = false := frozen_block _ _ _ _ _ hB
  generalize hs0 : s0 = t at *
  have HT := hid_of hs0
  clear hk hK hB hst hs0 c0 c1 c2 c3 c4 c5 c6 c7 hc
  go_wp2
  have hh : w.heap.size ≤ w.heap.size ∨ False := .inl (Nat.le_refl _)
  refine bodyPost_ret (v := t.lit) ?_ rfl ⟨by rw [HX.out], ((((((((HK.out).setCell hh _).setCell hh _).setCell hh _).setCell hh _).setCell hh _).setCell hh _).setCell hh _).setCell hh _⟩
  exact results_cell_row (by rfl) _ _ w.heap.size 125 _ (0, 0) _ (by rfl) (set_block _ _ _ _ _ _ (set_block _ _ _ _ _ _ (set_block _ _ _ _ _ _ (set_block _ _ _ _ _ _ (set_block _ _ _ _ _ _ (set_block _ _ _ _ _ _ (set_block _ _ _ _ _ _ (set_block _ _ _ _ _ _ HB.out _) _) _) _) _) _) _) _) Tryz.underlying125 rfl size48
 ·have hI : ¬ (h.n : Int) < 64 := by omega
  have hX : h.now = h.p := by unfold Hsh.now; rw [if_neg hlt]
  have HX := hid_of hX
  clear hX
  go_enter Tryz.func81, Tryz.ntmps81
  go_wp2
  refine bodyPost_ret (v := h.p.lit) ?_ rfl ⟨by rw [HX.out], (Kept.refl _ _).alloc _⟩
  exact results_cell_row (by rfl) _ _ w.heap.size 125 _ (0, 0) _ (by rfl) (alloc_new _ _ rfl) Tryz.underlying125 rfl size48
end Go.Proofs.YtjdbmjkidljhpaaGreatDoor
namespace Go.Proofs.YtjdbmjkidljhpaaGreatDoor
open Go.RowKit
set_option linter.unusedVariables false
set_option maxRecDepth 100000
set_option linter.unusedSimpArgs false
theorem kept_row (w : World) (g : Nat) (cs : Array Value) : Kept (fun k => k = g) w (w.setRow g cs) := (Kept.refl (fun k => k = g) w).setRow (g := g) (.inr rfl) cs
theorem HashIs.pasts {w : World} {g : Nat} {h : Hsh} (H : HashIs w g h) : w.cell? ⟨g, 0, none⟩ = some (.int .u32 h.p.a) ∧ w.cell? ⟨g, 1, none⟩ = some (.int .u32 h.p.b) ∧ w.cell? ⟨g, 2, none⟩ = some (.int .u32 h.p.c) ∧ w.cell? ⟨g, 3, none⟩ = some (.int .u32 h.p.d) ∧ w.cell? ⟨g, 4, none⟩ = some (.int .u32 h.p.e) ∧ w.cell? ⟨g, 5, none⟩ = some (.int .u32 h.p.f) ∧ w.cell? ⟨g, 6, none⟩ = some (.int .u32 h.p.g) ∧ w.cell? ⟨g, 7, none⟩ = some (.int .u32 h.p.h) := ⟨H.past 0 (by decide), H.past 1 (by decide), H.past 2 (by decide), H.past 3 (by decide), H.past 4 (by decide), H.past 5 (by decide), H.past 6 (by decide), H.past 7 (by decide)⟩
theorem range8 {w : World} {g : Nat} {cs : List Value} (h : w.rangeAt g 8 cs) (u0 u1 u2 u3 u4 u5 u6 u7 : Value) : ((((((((w.setCell ⟨g, 0, none⟩ u0).setCell ⟨g, 1, none⟩ u1).setCell ⟨g, 2, none⟩ u2).setCell ⟨g, 3, none⟩ u3).setCell ⟨g, 4, none⟩ u4).setCell ⟨g, 5, none⟩ u5).setCell ⟨g, 6, none⟩ u6).setCell ⟨g, 7, none⟩ u7).rangeAt g 8 cs := fun j v hv => by
 rw [cell_far _ _ _ _ _ (by omega), cell_far _ _ _ _ _ (by omega), cell_far _ _ _ _ _ (by omega), cell_far _ _ _ _ _ (by omega), cell_far _ _ _ _ _ (by omega), cell_far _ _ _ _ _ (by omega), cell_far _ _ _ _ _ (by omega), cell_far _ _ _ _ _ (by omega)]
 exact h j v hv
theorem range_kept {S : Nat → Prop} {w w' : World} {g o : Nat} {cs : List Value} (h : w.rangeAt g o cs) (hk : Kept S w w') (hs : ¬ S g) : w'.rangeAt g o cs := fun j v hv => hk.cell (h j v hv) hs
theorem laid_kept {S : Nat → Prop} {w w' : World} (h : Laid w) (hk : Kept S w w') (hs : ¬ S 0) : Laid w' := fun t ht => hk.cell (h t ht) hs
/-- A value is a slice of these bytes, which do not lie in block g. -/
def BAt (w : World) (v : Value) (xs : List Int) (g : Nat) : Prop :=
 (xs = [] ∧ ∃ ao c, v = .slice ao 0 c) ∨ ∃ b o c, v = .slice (some ⟨b, o, none⟩) xs.length c ∧ xs.length ≤ c ∧ b ≠ g ∧ ∀ i, i < xs.length → w.cell? ⟨b, o + i, none⟩ = some (.int .u8 (xs.getD i 0))
def lenOf : Value → Nat
 | .slice _ n _ => n
 | _ => 0
theorem BAt.kept {S : Nat → Prop} {w w' : World} {v : Value} {xs : List Int} {g : Nat} (h : BAt w v xs g) (hk : Kept S w w') (hs : ∀ k, S k → k = g) : BAt w' v xs g := by
 rcases h with h | ⟨b, o, c, e, hc, hb, hx⟩
 ·exact .inl h
 ·exact .inr ⟨b, o, c, e, hc, hb, fun i hi => hk.cell (hx i hi) (fun f => hb (hs _ f))⟩
/-- What is left of it behind k bytes. -/
theorem BAt.rest {w : World} {xs : List Int} {g b o c k : Nat} (hc : xs.length ≤ c) (hb : b ≠ g) (hx : ∀ i, i < xs.length → w.cell? ⟨b, o + i, none⟩ = some (.int .u8 (xs.getD i 0))) (hk : k ≤ xs.length) :
  BAt w (.slice (if c = k then some ⟨b, o, none⟩ else some ⟨b, o + k, none⟩) (xs.length - k) (c - k)) (xs.drop k) g := by
 by_cases e : xs.length = k
 ·exact .inl ⟨List.drop_eq_nil_of_le (by omega), _, _, by rw [e, Nat.sub_self]⟩
 ·refine .inr ⟨b, o + k, c - k, ?_, by simp; omega, hb, fun i hi => ?_⟩
  ·rw [if_neg (by omega), List.length_drop]
  ·rw [List.length_drop] at hi
   rw [Nat.add_assoc, hx (k + i) (by omega)]
   simp [List.getD, List.getElem?_drop]
/-- The tail with bytes laid into it. -/
theorem Hsh.laid (h : Hsh) (hl : h.t.length = 64) (ys : List Int) (a : Nat) (ha : a + ys.length ≤ 64) :
  (h.cells.toArray.toList.take (8 + a) ++ ys.map (Value.int .u8) ++ h.cells.toArray.toList.drop (8 + a + (ys.map (Value.int .u8)).length)).toArray = (Hsh.mk h.p (laidIn h.t ys a) h.n).cells.toArray := by
 congr 1
 simp only [Hsh.cells, laidIn]
 generalize hP : ([.int .u32 h.p.a, .int .u32 h.p.b, .int .u32 h.p.c, .int .u32 h.p.d, .int .u32 h.p.e, .int .u32 h.p.f, .int .u32 h.p.g, .int .u32 h.p.h] : List Value) = P
 have hp : P.length = 8 := by rw [← hP]; rfl
 clear hP
 have hd : P.drop (8 + a + (ys.map (Value.int .u8)).length) = [] := List.drop_eq_nil_of_le (by simp; omega)
 rw [List.take_append, List.drop_append, List.take_of_length_le (l := P) (by omega), hd]
 simp [hp, hl, List.take_append, List.drop_append, show 8 + a + ys.length - 8 = a + ys.length by omega, show a - 64 = 0 by omega, show a + ys.length - 64 = 0 by omega]
theorem run_tail (w : World) (g a : Nat) (ha : a < 64) : (Instr.sliceAt 126 (.pointer (some ⟨g, 8, none⟩)) (some (.int .i64 (a : Int))) none none).run Tryz.prog w = .ok (.slice (some ⟨g, 8 + a, none⟩) (64 - a) (64 - a)) w := by
 have := run_sliceAt_array_l (P := Tryz.prog) w 126 ⟨g, 8, none⟩ Tryz.underlying126 .i64 (a : Int) (by omega) (by show (a : Int) ≤ 64; omega)
 rw [this]
 simp [slicedAt, Program.arrayLen, Program.elem, Tryz.underlying126, Tryz.sizeOf5, Addr.add_mid]
 omega
set_option maxRecDepth 100000 in
set_option maxHeartbeats 1000000 in
theorem write_any (g : Nat) (xs ys : List Int) (v : Value) (w : World) (H : HashAt w g xs) (hB : BAt w v ys g) (hr : ∀ x ∈ ys, 0 ≤ x ∧ x < 256) (hL : Laid w) (hg : g ≠ 0) (hlen : xs.length + ys.length < 4611686018427387904) :
  Calls Tryz.prog 74 #[.pointer (some ⟨g, 0, none⟩), v] w fun e w' => e = .returned (.tuple #[]) ∧ HashAt w' g (xs ++ ys) ∧ Kept (fun k => k = g) w w' := by
 have HR := hid_of hr
 have HL := hid_of hL
 have HH := hid_of H
 have HBB := hid_of hB
 have HLEN := hid_of hlen
 clear hr hL H hB hlen
 go_enter Tryz.func74, Tryz.ntmps74
 go_wp2
 go_loopw [1] (fun b wr => ∃ j : Nat, j ≤ ys.length ∧ BAt w b (ys.drop j) g ∧ HashAt wr g (xs ++ ys.take j) ∧ Kept (fun k => k = g) w wr) (fun b _ => lenOf b)
 case atStart => exact ⟨0, by omega, HBB.out, by simpa using HH.out, Kept.refl _ _⟩
 case round =>
  clear HH HBB
  obtain ⟨j, hj, hB, hH, hK⟩ := hrel
  rcases hB with ⟨he, ao, c, rfl⟩ | ⟨b, o, c, rfl, hc, hb, hx0⟩
  ·have ej : j = ys.length := by have := congrArg List.length he; simp at this; omega
   subst ej
   have HH : Hid (HashAt wr g (xs ++ ys)) := by rw [List.take_length] at hH; exact hH
   have HK := hid_of hK
   clear hH hK he
   go_wp2
   go_end0
   exact ⟨rfl, HH.out, HK.out⟩
  ·obtain ⟨h, hI, hO⟩ := hH
   obtain ⟨xs', hxs⟩ : ∃ l, xs ++ ys.take j = l := ⟨_, rfl⟩
   obtain ⟨zs, hzs⟩ : ∃ l, ys.drop j = l := ⟨_, rfl⟩
   rw [hxs] at hO
   rw [hzs] at hc hx0
   have hx : ∀ i, i < zs.length → wr.cell? ⟨b, o + i, none⟩ = some (.int .u8 (zs.getD i 0)) := fun i hi => hK.cell (hx0 i hi) (fun e => hb e)
   have hxl : xs'.length = xs.length + j := by rw [← hxs]; simp; omega
   have hzl : zs.length = ys.length - j := by rw [← hzs]; simp
   have hlen := HLEN.out
   by_cases hz0 : zs.length = 0
   ·have ej : j = ys.length := by omega
    have HH : Hid (HashAt wr g (xs ++ ys)) := ⟨h, hI, by rw [← hxs, ej, List.take_length] at hO; exact hO⟩
    have HK := hid_of hK
    rw [hzs, hz0]
    clear hI hO hx hx0 hK
    go_wp2
    go_end0
    exact ⟨rfl, HH.out, HK.out⟩
   obtain ⟨a, ha⟩ : ∃ a, xs'.length % 64 = a := ⟨_, rfl⟩
   have ha64 : a < 64 := by omega
   obtain ⟨k, hk⟩ : ∃ k, Nat.min zs.length (64 - a) = k := ⟨_, rfl⟩
   have hkm : k = min zs.length (64 - a) := hk.symm
   have hmod : (h.n : Int) % 64 = (a : Int) := by rw [hO.n]; omega
   have hpl : (zs.take k).length = k := by simp; omega
   have hsl := fun w => run_tail w g a ha64
   have hcp := run_copy_row (P := Tryz.prog) wr 27 27 3 5 g (8 + a) (64 - a) (64 - a) ⟨b, o, none⟩ zs.length c h.cells.toArray 128 ((zs.take k).map (Value.int .u8)) Tryz.underlying27 size5 hI.1 (by rw [List.length_map, hpl, hk])
    (fun i u hu => by
     have hi : i < k := by
      have := (List.getElem?_eq_some_iff.1 hu).1
      rw [List.length_map, hpl] at this
      exact this
     rw [Addr.add_mid, hx i (by omega)]
     rw [List.getElem?_map, List.getElem?_take_of_lt hi] at hu
     simpa [List.getD, List.getElem?_eq_getElem (show i < zs.length by omega)] using hu)
    (by rw [Hsh.size h hI.2.1, List.length_map, hpl]; omega) (fun u hu => by
     obtain ⟨x, _, rfl⟩ := List.mem_map.1 hu
     rfl)
   rw [Hsh.laid h hI.2.1 _ _ (by rw [hpl]; omega), List.length_map, hpl] at hcp
   have hrz : ∀ x ∈ zs, 0 ≤ x ∧ x < 256 := fun x hx => HR.out x (by rw [← hzs] at hx; exact List.mem_of_mem_drop hx)
   have hI1 : HashIs (wr.setRow g (Hsh.mk h.p (laidIn h.t (zs.take k) a) h.n).cells.toArray) g (Hsh.mk h.p (laidIn h.t (zs.take k) a) h.n) := by
    refine ⟨setRow_heap _ _ _ _ _ _ hI.1, (laidIn_length (by rw [hpl, hI.2.1]; omega)).trans hI.2.1, fun x hx => ?_⟩
    simp only [laidIn, List.mem_append] at hx
    rcases hx with hx | hx | hx
    ·exact hI.2.2 x (List.mem_of_mem_take hx)
    ·exact hrz x (List.mem_of_mem_take hx)
    ·exact hI.2.2 x (List.mem_of_mem_drop hx)
   have hK1 : Kept (fun k => k = g) w (wr.setRow g (Hsh.mk h.p (laidIn h.t (zs.take k) a) h.n).cells.toArray) := hK.setRow (.inr rfl) _
   have hn72 := hI.len
   have hk0 : 0 < k := by omega
   have hkz : k ≤ zs.length := by omega
   have hB1 : BAt w (.slice (if c = k then some ⟨b, o, none⟩ else some ⟨b, o + k, none⟩) (zs.length - k) (c - k)) (ys.drop (j + k)) g := by
    have := BAt.rest (k := k) hc hb hx0 hkz
    rw [← hzs, List.drop_drop] at this
    rw [← hzs]
    exact this
   have hJ : xs' ++ zs.take k = xs ++ ys.take (j + k) := by rw [← hxs, ← hzs, List.append_assoc, List.take_add]
   have HJ := hid_of hJ
   have HI1 := hid_of hI1
   have HK1 := hid_of hK1
   have HB1 := hid_of hB1
   have HO := hid_of hO
   have HA := hid_of ha
   have HX := hid_of hxs
   have HZ := hid_of hzs
   have HPL := hid_of hpl
   have hnlt : h.n < 4611686018427387904 := by rw [hO.n]; omega
   have HXL := hid_of hxl
   have HZL := hid_of hzl
   have HLN := hid_of hlen
   have hm0 : 0 < zs.length := by omega
   have hk64 : k ≤ 64 := by omega
   have hak : a + k ≤ 64 := by omega
   rw [hzs]
   clear hxl hzl hlen hz0 hI1 hK1 hB1 hI hK hx hx0 hrz hJ hO hxs hpl ha hzs hkm hk
   by_cases hfull : a + k = 64
   ·have hE : ((a : Int) + (k : Int) == 64) = true := by simp; omega
    have hLw : Laid (wr.setRow g (Hsh.mk h.p (laidIn h.t (zs.take k) a) h.n).cells.toArray) := fun t ht => HK1.out.cell (HL.out t ht) (fun e => hg e.symm)
    have HLW := hid_of hLw
    clear hLw
    generalize hh1 : Hsh.mk h.p (laidIn h.t (zs.take k) a) h.n = h1 at *
    have hn1 : h1.n = h.n := by rw [← hh1]
    have HN1 := hid_of hn1
    have HH1 := hid_of hh1
    clear hn1 hh1
    go_wp2
    generalize wr.setRow g h1.cells.toArray = w1 at *
    have hs49 : (Tryz.prog.info? 126).map (·.size) = some (h1.t.map (Value.int .u8)).length := by rw [size49, List.length_map, HI1.out.2.1]
    have hcl : (h1.t.map (Value.int .u8)).length = 64 := by rw [List.length_map, HI1.out.2.1]
    have hco : ∀ v ∈ h1.t.map (Value.int .u8), v.oneCell' = true := fun v hv => by
     obtain ⟨x, _, rfl⟩ := List.mem_map.1 hv
     rfl
    have hrg := HI1.out.tail
    have hu49 := Tryz.underlying126
    have HTU : Hid (∀ W, Laid W → Calls Tryz.prog 82 #[h1.now.lit, .agg (h1.t.map (Value.int .u8)).toArray] W fun e w' => e = .returned (turn h1.now h1.t).lit ∧ Kept (fun _ => False) W w') := fun W hW => turned_lit _ _ HI1.out.2.1 HI1.out.2.2 W hW
    have HST : Hid (Calls Tryz.prog 81 #[.pointer (some ⟨g, 0, none⟩)] w1.drew fun e w' => e = .returned h1.now.lit ∧ Kept (fun _ => False) w1.drew w') := state_any g h1 w1.drew HI1.out (by rw [HN1.out]; exact hnlt)
    have hrd : w1.drew.rangeAt g 8 (h1.t.map (Value.int .u8)) := hrg
    generalize h1.t.map (Value.int .u8) = cs at *
    generalize hsn : turn h1.now h1.t = sn at *
    generalize hso : h1.now = so at *
    have HSN := hid_of hsn
    have HSO := hid_of hso
    clear hsn hso
    go_region_held3 (fun w' => w'.rangeAt g 8 cs) (first | with_reducible exact hrg | with_reducible exact hrd | with_reducible exact H2.out.1.1 | with_reducible exact H3.out.2.1 | with_reducible exact range8 H3.out.2.1 _ _ _ _ _ _ _ _)
     (first | (go_at_call 82; refine (HTU.out w2 H2.out.2.1).mono ?_; rintro e w3 ⟨rfl, hk3⟩; have H3 := hid_of (show HashIs w3 g h1 ∧ w3.rangeAt g 8 cs ∧ Kept (fun k => k = g) w w3 from ⟨H2.out.1.2.kept hk3 (fun f => f), range_kept H2.out.1.1 hk3 (fun f => f), H2.out.2.2.trans (hk3.mono (fun _ _ f => f.elim))⟩); clear hk3; obtain ⟨d0, d1, d2, d3, d4, d5, d6, d7⟩ := H3.out.1.pasts; have f0 := H3.out.1.fz 0; have f1 := H3.out.1.fz 1; have f2 := H3.out.1.fz 2; have f3 := H3.out.1.fz 3; have f4 := H3.out.1.fz 4; have f5 := H3.out.1.fz 5; have f6 := H3.out.1.fz 6; have f7 := H3.out.1.fz 7) | (go_at_call 81; refine HST.out.mono ?_; rintro e w2 ⟨rfl, hk2⟩; have H2 := hid_of (show (w2.rangeAt g 8 cs ∧ HashIs w2 g h1) ∧ Laid w2 ∧ Kept (fun k => k = g) w w2 from ⟨⟨range_kept (show w1.drew.rangeAt g 8 cs from hrg) hk2 (fun f => f), (show HashIs w1.drew g h1 from HI1.out).kept hk2 (fun f => f)⟩, laid_kept (show Laid w1.drew from HLW.out) hk2 (fun f => f), (show Kept (fun k => k = g) w w1.drew from HK1.out.drew).trans (hk2.mono (fun _ _ f => f.elim))⟩); clear hk2))
    have hI4 := H3.out.1.setp sn
    have hK4 : Kept (fun k => k = g) w ((((((((w3.setCell ⟨g, 0, none⟩ (.int .u32 sn.a)).setCell ⟨g, 1, none⟩ (.int .u32 sn.b)).setCell ⟨g, 2, none⟩ (.int .u32 sn.c)).setCell ⟨g, 3, none⟩ (.int .u32 sn.d)).setCell ⟨g, 4, none⟩ (.int .u32 sn.e)).setCell ⟨g, 5, none⟩ (.int .u32 sn.f)).setCell ⟨g, 6, none⟩ (.int .u32 sn.g)).setCell ⟨g, 7, none⟩ (.int .u32 sn.h)) := ((((((((H3.out.2.2).setCell (p := ⟨g, 0, none⟩) (.inr rfl) _).setCell (p := ⟨g, 1, none⟩) (.inr rfl) _).setCell (p := ⟨g, 2, none⟩) (.inr rfl) _).setCell (p := ⟨g, 3, none⟩) (.inr rfl) _).setCell (p := ⟨g, 4, none⟩) (.inr rfl) _).setCell (p := ⟨g, 5, none⟩) (.inr rfl) _).setCell (p := ⟨g, 6, none⟩) (.inr rfl) _).setCell (p := ⟨g, 7, none⟩) (.inr rfl) _
    generalize ((((((((w3.setCell ⟨g, 0, none⟩ (.int .u32 sn.a)).setCell ⟨g, 1, none⟩ (.int .u32 sn.b)).setCell ⟨g, 2, none⟩ (.int .u32 sn.c)).setCell ⟨g, 3, none⟩ (.int .u32 sn.d)).setCell ⟨g, 4, none⟩ (.int .u32 sn.e)).setCell ⟨g, 5, none⟩ (.int .u32 sn.f)).setCell ⟨g, 6, none⟩ (.int .u32 sn.g)).setCell ⟨g, 7, none⟩ (.int .u32 sn.h)) = w4 at *
    clear d0 d1 d2 d3 d4 d5 d6 d7 f0 f1 f2 f3 f4 f5 f6 f7 hrg hrd H2 H3 HST HTU
    have hl4 := hI4.len
    have hf4 := hI4.fz 72
    have HI4 := hid_of hI4
    have HK4 := hid_of hK4
    clear hI4 hK4
    have hw : wrap64 ((h1.n : Int) + (k : Int)) = ((h1.n + k : Nat) : Int) := by rw [HN1.out]; unfold wrap64; omega
    have HW := hid_of hw
    clear hw
    go_wp2
    go_roundw
    case rel =>
     rw [HW.out]
     refine ⟨j + k, by have := HZL.out; omega, HB1.out, ⟨_, HI4.out.setn (h1.n + k), ?_⟩, HK4.out.setCell (.inr rfl) _⟩
     have hF := HO.out.full (zs.take k) (by rw [HA.out, HPL.out]; exact hfull)
     rw [HJ.out] at hF
     rw [← HSN.out, ← HSO.out, ← HH1.out]
     rw [HA.out, HPL.out] at hF
     exact hF
    case measure => simp [lenOf]; omega
   ·have hE : ((a : Int) + (k : Int) == 64) = false := by simp; omega
    generalize hh1 : Hsh.mk h.p (laidIn h.t (zs.take k) a) h.n = h1 at *
    have HH1 := hid_of hh1
    have hn1 : h1.n = h.n := by rw [← hh1]
    have HN1 := hid_of hn1
    clear hn1 hh1
    have hl1 := HI1.out.len
    have hf1 := HI1.out.fz 72
    generalize wr.setRow g h1.cells.toArray = w1 at *
    have hw : wrap64 ((h1.n : Int) + (k : Int)) = ((h1.n + k : Nat) : Int) := by rw [HN1.out]; unfold wrap64; omega
    have HW := hid_of hw
    clear hw
    go_wp2
    go_roundw
    case rel =>
     rw [HW.out]
     refine ⟨j + k, by have := HZL.out; omega, HB1.out, ⟨_, HI1.out.setn (h1.n + k), ?_⟩, HK1.out.setCell (.inr rfl) _⟩
     have hF := HO.out.part (zs.take k) (by rw [HA.out, HPL.out]; omega)
     rw [HJ.out] at hF
     rw [← HH1.out]
     rw [HA.out, HPL.out] at hF
     exact hF
    case measure => simp [lenOf]; omega
end Go.Proofs.YtjdbmjkidljhpaaGreatDoor
namespace Go.Proofs.YtjdbmjkidljhpaaGreatDoor
open Go.RowKit
set_option linter.unusedVariables false
set_option maxRecDepth 100000
set_option linter.unusedSimpArgs false
def Hsh.zero : Hsh := ⟨⟨0, 0, 0, 0, 0, 0, 0, 0⟩, List.replicate 64 0, 0⟩
def zero51 : Array Value := Hsh.zero.cells.toArray
theorem info51 : (Tryz.prog.info? 128).map (fun i => (i.zero, i.size)) = some (some (.agg zero51), 73) := by kernel_rfl
theorem zeroV51 (w : World) : (zeroValue 128).run Tryz.prog w = .ok (.agg zero51) w := (zero_of_info info51).1 w
theorem size51 : (Tryz.prog.info? 128).map (·.size) = some 73 := (zero_of_info info51).2
theorem zero51_size : zero51.size = 73 := by kernel_rfl
theorem zero_of : Hsh.zero.Of [] := ⟨rfl, by simp [Hsh.zero], rfl, fun h => absurd h (by decide)⟩
theorem zero_is {w : World} {g : Nat} (h : w.heap[g]? = some (.cells zero51 128 (0, 0))) : HashAt w g [] :=
 ⟨Hsh.zero, ⟨h, by simp [Hsh.zero], fun x hx => by simp [Hsh.zero] at hx; subst hx; decide⟩, zero_of⟩
set_option maxRecDepth 100000 in
set_option maxHeartbeats 1000000 in
theorem new_any (w : World) : Calls Tryz.prog 73 #[] w fun e w' => e = .returned (.pointer (some ⟨w.heap.size, 0, none⟩)) ∧ w' = w.alloc (.cells zero51 128 (0, 0)) := by
 have hz := zeroV51
 go_enter Tryz.func73, Tryz.ntmps73
 go_wp2
 go_ret
 exact ⟨rfl, rfl⟩
theorem heap_lt {w : World} {k : Nat} {o : Obj} (h : w.heap[k]? = some o) : k < w.heap.size := (Array.getElem?_eq_some_iff.1 h).1
theorem setRow_new (w : World) (c c' : Array Value) (t : TypeId) {k : Nat} (hk : k = w.heap.size) : (w.alloc (.cells c t)).setRow k c' = w.alloc (.cells c' t) := by
 subst hk
 exact World.setRow_alloc_new w c c' t
theorem Hsh.one (h : Hsh) : h.cells.toArray.all (·.oneCell') = true := by
 rw [Array.all_eq_true_iff_forall_mem]
 intro v hv
 simp only [Hsh.cells, List.mem_toArray, List.mem_append, List.mem_cons, List.mem_map, List.not_mem_nil, or_false] at hv
 rcases hv with hv | ⟨x, _, rfl⟩ | rfl
 ·rcases hv with rfl | rfl | rfl | rfl | rfl | rfl | rfl | rfl <;> rfl
 ·rfl
 ·rfl
theorem zeros_lt (n : Nat) : zeros n < 64 := by unfold zeros; omega
theorem pad_range (n : Nat) : ∀ x ∈ pad n, 0 ≤ x ∧ x < 256 := by
 intro x hx
 simp only [pad, List.mem_cons, List.mem_append, List.mem_replicate, lenb, List.mem_map] at hx
 rcases hx with rfl | ⟨_, rfl⟩ | ⟨i, _, rfl⟩
 ·decide
 ·decide
 ·unfold lbyte; omega
set_option maxRecDepth 100000 in
set_option maxHeartbeats 1000000 in
theorem sum_any (g : Nat) (xs : List Int) (w : World) (H : HashAt w g xs) (hL : Laid w) (hw : w.heap.size ≠ 0) (hlen : xs.length < 1152921504606846976) :
  Calls Tryz.prog 75 #[.pointer (some ⟨g, 0, none⟩)] w fun e w' => e = .returned (.agg ((sha xs).map (Value.int .u8)).toArray) ∧ Kept (fun _ => False) w w' := by
 obtain ⟨h, hI, hO⟩ := H
 have hz := zeroV51
 have hn := hI.len
 have hs51 : (Tryz.prog.info? 128).map (·.size) = some h.cells.toArray.size := by rw [size51, Hsh.size h hI.2.1]
 have HI := hid_of hI
 have HO := hid_of hO
 have HL := hid_of hL
 clear hI hO hL
 go_enter Tryz.func75, Tryz.ntmps75
 have h1 := h.one
 have hn2 : ∀ o1 o2 : Obj, ((w.alloc o1).alloc o2).cell? ⟨g, 72, none⟩ = some (.int .i64 (h.n : Int)) := fun o1 o2 => (((Kept.refl (fun _ => False) w).alloc o1).alloc o2).cell hn (fun f => f)
 have hzs : zero51.size = h.cells.toArray.size := by rw [zero51_size, Hsh.size h HI.out.2.1]
 go_wp2_with (first | refine wpList_load_row rfl 128 _ rfl g rfl 128 h.cells.toArray (0, 0) _ (alloc_old HI.out.1) Tryz.underlying128 rfl hs51 ?_ | (refine wpList_store_row rfl 128 _ _ rfl (w.heap.size + 1) h.cells.toArray rfl rfl 128 zero51 (alloc_new _ _ (by simp)) hs51 hzs h1 ?_; rw [setRow_new _ _ _ _ (by simp)]))
 have hI2 : HashIs ((w.alloc (.cells z32 29)).alloc (.cells h.cells.toArray 128)) (w.heap.size + 1) h := ⟨alloc_new _ _ (by simp), HI.out.2⟩
 have hK2 : Kept (fun _ => False) w ((w.alloc (.cells z32 29)).alloc (.cells h.cells.toArray 128)) := ((Kept.refl _ w).alloc _).alloc _
 have hD2 : ((w.alloc (.cells z32 29)).alloc (.cells h.cells.toArray 128)).heap[w.heap.size]? = some (.cells z32 29) := alloc_old (alloc_new _ _ rfl)
 have hsz : ((w.alloc (.cells z32 29)).alloc (.cells h.cells.toArray 128)).heap.size = w.heap.size + 1 + 1 := by simp
 have hn3 : h.n = xs.length := HO.out.n
 generalize (w.alloc (.cells z32 29)).alloc (.cells h.cells.toArray 128) = w2 at *
 have HI2 := hid_of hI2
 have HK2 := hid_of hK2
 have HD2 := hid_of hD2
 have HS2 := hid_of hsz
 rw [hn3]
 clear hI2 hK2 hD2 hsz hn2
 refine (filling_any xs.length (by omega) w2).mono ?_
 rintro e w3 ⟨rfl, hP, hk3⟩
 have hI3 := HI2.out.kept hk3 (fun f => f)
 have hK3 := HK2.out.trans hk3
 have hB3 : BAt w3 (.slice (some ⟨w2.heap.size, 0, none⟩) (9 + zeros xs.length) (9 + zeros xs.length)) (pad xs.length) (w.heap.size + 1) := by
  refine .inr ⟨w2.heap.size, 0, 9 + zeros xs.length, by rw [pad_length], by rw [pad_length]; exact Nat.le_refl _, by rw [HS2.out]; omega, fun i hi => ?_⟩
  rw [cell_block _ _ _ _ _ _ hP]
  simp [List.getD, List.getElem?_eq_getElem hi]
 have hw3 := write_any (w.heap.size + 1) xs (pad xs.length) _ w3 ⟨h, hI3, HO.out⟩ hB3 (pad_range _) (laid_kept HL.out hK3 (fun f => f)) (by omega) (by rw [pad_length]; have := zeros_lt xs.length; omega)
 have HD3 := hid_of ((hk3.block _ (by rw [HS2.out]; omega) (fun f => f)).trans HD2.out)
 have HK3 := hid_of hK3
 clear hP hk3 hI3 hB3 hK3
 go_wp2_with fail
 refine hw3.mono ?_
 rintro e w4 ⟨rfl, ⟨h4, hI4, hO4⟩, hk4⟩
 obtain ⟨d0, d1, d2, d3, d4, d5, d6, d7⟩ := hI4.pasts
 have HX : Hid (dig h4.p = sha xs) := by
  have hfl := full_length xs.length
  rw [hO4.past (by rw [List.length_append, pad_length]; rw [pad_length] at hfl; omega), List.length_append]
  rfl
 have HK4 : Hid (Kept (fun _ => False) w w4) := HK3.out.step (T := fun k => k = w.heap.size + 1) hk4 (fun i hi e => by omega)
 have HD4 := hid_of ((hk4.block _ (heap_lt HD3.out) (by omega)).trans HD3.out)
 clear hI4 hO4 hk4 hw3
 go_wp2_with fail
 refine (digest_any h4.p w4).mono ?_
 rintro e w5 ⟨rfl, hk5⟩
 have hO5 := (hk5.block _ (heap_lt HD4.out) (fun f => f)).trans HD4.out
 have hK5 := HK4.out.trans hk5
 rw [HX.out]
 have h1' := oneCells .u8 (sha xs)
 have hsl : (sha xs).length = 32 := by rw [← HX.out, dig_length]
 have hs28 : (Tryz.prog.info? 29).map (·.size) = some ((sha xs).map (Value.int .u8)).toArray.size := by simp [size28, hsl]
 have hos : 32 = ((sha xs).map (Value.int .u8)).toArray.size := by simp [hsl]
 have HKR : Hid (Kept (fun _ => False) w (w5.setRow w.heap.size ((sha xs).map (Value.int .u8)).toArray)) := hK5.setRow (.inl (Nat.le_refl _)) _
 have HRR := hid_of (setRow_heap w5 w.heap.size _ ((sha xs).map (Value.int .u8)).toArray 29 (0, 0) hO5)
 clear hK5 hk5
 generalize hcs : ((sha xs).map (Value.int .u8)).toArray = cs at *
 have HC := hid_of hcs
 clear hcs
 go_wp2_with (refine wpList_store_row rfl 29 _ _ rfl w.heap.size cs rfl rfl 29 _ hO5 hs28 hos h1' ?_)
 simp only [Act.put]
 refine bodyPost_ret (v := .agg cs) ?_ rfl ⟨by rw [HC.out], HKR.out⟩
 exact results_cell_row (by rfl) _ _ w.heap.size 29 cs (0, 0) _ (by rfl) HRR.out Tryz.underlying29 rfl hs28
end Go.Proofs.YtjdbmjkidljhpaaGreatDoor
namespace Go.Proofs.YtjdbmjkidljhpaaGreatDoor
open Go.RowKit
set_option linter.unusedVariables false
set_option maxRecDepth 100000
set_option linter.unusedSimpArgs false
/-- A value is a slice of these bytes. -/
def BIn (w : World) (v : Value) (xs : List Int) : Prop :=
 ∃ ao c, v = .slice ao xs.length c ∧ xs.length ≤ c ∧ (xs = [] ∨ ∃ b o, ao = some ⟨b, o, none⟩ ∧ ∀ i, i < xs.length → w.cell? ⟨b, o + i, none⟩ = some (.int .u8 (xs.getD i 0)))
/-- A value is a slice of such slices. -/
def PIn (w : World) (v : Value) (ls : List (List Int)) : Prop :=
 ∃ ao c, v = .slice ao ls.length c ∧ ∀ i, i < ls.length → ∃ b o u, ao = some ⟨b, o, none⟩ ∧ w.cell? ⟨b, o + i, none⟩ = some u ∧ BIn w u (ls.getD i [])
theorem BIn.out {w : World} {v : Value} {xs : List Int} (h : BIn w v xs) (g : Nat) (hg : w.heap.size ≤ g) : BAt w v xs g := by
 obtain ⟨ao, c, rfl, hc, rfl | ⟨b, o, rfl, hx⟩⟩ := h
 ·exact .inl ⟨rfl, ao, c, rfl⟩
 ·by_cases h0 : xs.length = 0
  ·exact .inl ⟨List.eq_nil_of_length_eq_zero h0, _, c, by rw [h0]⟩
  ·refine .inr ⟨b, o, c, rfl, hc, ?_, hx⟩
   have := World.block_lt_of_cell? w _ (hx 0 (by omega))
   simp only at this
   omega
theorem BIn.kept {S : Nat → Prop} {w w' : World} {v : Value} {xs : List Int} (h : BIn w v xs) (hk : Kept S w w') (hs : ∀ k, k < w.heap.size → ¬ S k) : BIn w' v xs := by
 obtain ⟨ao, c, rfl, hc, rfl | ⟨b, o, rfl, hx⟩⟩ := h
 ·exact ⟨ao, c, rfl, hc, .inl rfl⟩
 ·exact ⟨_, c, rfl, hc, .inr ⟨b, o, rfl, fun i hi => hk.cell (hx i hi) (hs _ (World.block_lt_of_cell? w _ (hx i hi)))⟩⟩
theorem Laid.size {w : World} (h : Laid w) : w.heap.size ≠ 0 := by
 have := World.block_lt_of_cell? w _ (h 0 (by decide))
 simp only at this
 omega
theorem flat_take (ls : List (List Int)) (k : Nat) (hk : k < ls.length) : (ls.take (k + 1)).flatten = (ls.take k).flatten ++ ls.getD k [] := by
 rw [List.take_add_one, List.getElem?_eq_getElem hk, List.flatten_append]
 simp [List.getD, List.getElem?_eq_getElem hk]
theorem flat_le (ls : List (List Int)) (k : Nat) : (ls.take k).flatten.length ≤ ls.flatten.length := by
 have := congrArg (fun l => (List.flatten l).length) (List.take_append_drop k ls)
 simp only [List.flatten_append, List.length_append] at this
 omega
set_option maxRecDepth 100000 in
set_option maxHeartbeats 1000000 in
theorem of_any (pv : Value) (ls : List (List Int)) (w : World) (hP : PIn w pv ls) (hr : ∀ l ∈ ls, ∀ x ∈ l, 0 ≤ x ∧ x < 256) (hL : Laid w) (hlen : ls.flatten.length < 1152921504606846976) (hll : ls.length < 9223372036854775807) :
  Calls Tryz.prog 63 #[pv] w fun e w' => e = .returned (.agg ((sha ls.flatten).map (Value.int .u8)).toArray) ∧ Kept (fun _ => False) w w' := by
 obtain ⟨ao, c, rfl, hp⟩ := hP
 have HP := hid_of hp
 have HR := hid_of hr
 have HL := hid_of hL
 have HLEN := hid_of hlen
 have hsz := hL.size
 clear hp hr hL hlen
 go_enter Tryz.func63, Tryz.ntmps63
 go_wp2_with fail
 refine (new_any _).mono ?_
 rintro e w1 ⟨rfl, rfl⟩
 have hH : HashAt ((w.alloc (.cells z32 29)).alloc (.cells zero51 128 (0, 0))) (w.heap.size + 1) (ls.take 0).flatten := zero_is (alloc_new _ _ (by simp))
 have hK : Kept (fun _ => False) w ((w.alloc (.cells z32 29)).alloc (.cells zero51 128 (0, 0))) := ((Kept.refl _ w).alloc _).alloc _
 have hD : ((w.alloc (.cells z32 29)).alloc (.cells zero51 128 (0, 0))).heap[w.heap.size]? = some (.cells z32 29) := alloc_old (alloc_new _ _ rfl)
 rw [show (w.alloc (.cells z32 29)).heap.size = w.heap.size + 1 by simp]
 generalize (w.alloc (.cells z32 29)).alloc (.cells zero51 128 (0, 0)) = w1 at *
 have HH := hid_of hH
 have HK := hid_of hK
 have HD := hid_of hD
 clear hH hK hD
 go_wp2_with fail
 go_loopw [9] (fun i wr => ∃ k : Nat, k ≤ ls.length ∧ i = .int .i64 k ∧ HashAt wr (w.heap.size + 1) (ls.take k).flatten ∧ Kept (fun _ => False) w wr ∧ wr.heap[w.heap.size]? = some (.cells z32 29)) (fun i _ => ls.length - (intOf i).toNat)
 case atStart => exact ⟨0, by omega, rfl, HH.out, HK.out, HD.out⟩
 case round =>
  clear HH HK HD
  obtain ⟨k, hk, rfl, hH, hK, hD⟩ := hrel
  by_cases hlt : k < ls.length
  ·obtain ⟨b, o, u, rfl, hu, hB⟩ := HP.out k hlt
   have hu' := hK.cell hu (fun f => f)
   have hmem : ls.getD k [] ∈ ls := by
    rw [List.getD, List.getElem?_eq_getElem hlt]
    simp
   have hle := flat_le ls (k + 1)
   rw [flat_take ls k hlt, List.length_append] at hle
   have hw := write_any (w.heap.size + 1) _ _ u wr hH ((hB.out (w.heap.size + 1) (by omega)).kept hK (fun _ f => f.elim)) (HR.out _ hmem) (laid_kept HL.out hK (fun f => f)) (by omega) (by have := HLEN.out; omega)
   rw [← flat_take ls k hlt] at hw
   have HW := hid_of hw
   have HK := hid_of hK
   have HD := hid_of hD
   clear hw hH hK hD hB hmem hle hu
   have hkI : (k : Int) < (ls.length : Int) := by omega
   go_wp2_with fail
   refine HW.out.mono ?_
   rintro e w2 ⟨rfl, hH2, hk2⟩
   have HH2 := hid_of hH2
   have HK2 : Hid (Kept (fun _ => False) w w2) := HK.out.step hk2 (fun i hi e => by omega)
   have HD2 := hid_of ((hk2.block _ (heap_lt HD.out) (by omega)).trans HD.out)
   clear hH2 hk2 HW HK HD
   go_wp2
   go_roundw
   case rel => exact ⟨k + 1, by omega, by go_num, HH2.out, HK2.out, HD2.out⟩
   case measure => simp [intOf]; omega
  ·obtain rfl : k = ls.length := by omega
   rw [List.take_length] at hH
   have hs := sum_any (w.heap.size + 1) ls.flatten wr hH (laid_kept HL.out hK (fun f => f)) (by have := hK.size; omega) HLEN.out
   have HS := hid_of hs
   have HK := hid_of hK
   have HD := hid_of hD
   clear hs hH hK hD
   go_wp2_with fail
   refine HS.out.mono ?_
   rintro e w5 ⟨rfl, hk5⟩
   have hO5 := (hk5.block _ (heap_lt HD.out) (fun f => f)).trans HD.out
   have hK5 := HK.out.trans hk5
   have h1' := oneCells .u8 (sha ls.flatten)
   have hsl : (sha ls.flatten).length = 32 := by simp [sha, dig]
   have hs28 : (Tryz.prog.info? 29).map (·.size) = some ((sha ls.flatten).map (Value.int .u8)).toArray.size := by simp [size28, hsl]
   have hos : 32 = ((sha ls.flatten).map (Value.int .u8)).toArray.size := by simp [hsl]
   have HKR : Hid (Kept (fun _ => False) w (w5.setRow w.heap.size ((sha ls.flatten).map (Value.int .u8)).toArray)) := hK5.setRow (.inl (Nat.le_refl _)) _
   have HRR := hid_of (setRow_heap w5 w.heap.size _ ((sha ls.flatten).map (Value.int .u8)).toArray 29 (0, 0) hO5)
   clear hK5 hk5 HS hsl
   generalize hcs : ((sha ls.flatten).map (Value.int .u8)).toArray = cs at *
   have HC := hid_of hcs
   clear hcs
   go_wp2_with (refine wpList_store_row rfl 29 _ _ rfl w.heap.size cs rfl rfl 29 _ hO5 hs28 hos h1' ?_)
   try simp only [Act.put]
   refine bodyPost_ret (v := .agg cs) ?_ rfl ⟨by rw [HC.out], HKR.out⟩
   exact results_cell_row (by rfl) _ _ w.heap.size 29 cs (0, 0) _ (by rfl) HRR.out Tryz.underlying29 rfl hs28
def abcDigest : List Int := [186, 120, 22, 191, 143, 1, 207, 234, 65, 65, 64, 222, 93, 174, 34, 35, 176, 3, 97, 163, 150, 23, 122, 156, 180, 16, 255, 97, 242, 0, 21, 173]
theorem sha_abc : sha [97, 98, 99] = abcDigest := by decide +kernel
theorem bin_new {w : World} {b n c : Nat} {xs : List Int} {t : TypeId} {f : Nat × Nat} (h : w.heap[b]? = some (.cells (xs.map (Value.int .u8)).toArray t f)) (hn : n = xs.length) (hc : n ≤ c) : BIn w (.slice (some ⟨b, 0, none⟩) n c) xs := by
 subst hn
 refine ⟨_, c, rfl, hc, .inr ⟨b, 0, rfl, fun i hi => ?_⟩⟩
 rw [cell_block _ _ _ _ _ _ h]
 simp [List.getD, List.getElem?_eq_getElem hi]
theorem pin_one {w : World} {b : Nat} {u : Value} {xs : List Int} {t : TypeId} {f : Nat × Nat} (h : w.heap[b]? = some (.cells #[u] t f)) (hB : BIn w u xs) : PIn w (.slice (some ⟨b, 0, none⟩) 1 1) [xs] := by
 refine ⟨_, 1, rfl, fun i hi => ⟨b, 0, u, rfl, ?_, ?_⟩⟩
 ·obtain rfl : i = 0 := by simpa using hi
  rw [cell_block _ _ _ _ _ _ h]
  rfl
 ·obtain rfl : i = 0 := by simpa using hi
  exact hB
/-- Of bytes that lie somewhere, as the only part. -/
theorem of_one (u : Value) (xs : List Int) (w : World) (b : Nat) {t : TypeId} {f : Nat × Nat} (h : w.heap[b]? = some (.cells #[u] t f)) (hB : BIn w u xs) (hr : ∀ x ∈ xs, 0 ≤ x ∧ x < 256) (hL : Laid w) (hlen : xs.length < 1152921504606846976) :
  Calls Tryz.prog 63 #[.slice (some ⟨b, 0, none⟩) 1 1] w fun e w' => e = .returned (.agg ((sha xs).map (Value.int .u8)).toArray) ∧ Kept (fun _ => False) w w' := by
 have := of_any _ [xs] w (pin_one h hB) (fun l hl x hx => hr x (by rw [List.mem_singleton.1 hl] at hx; exact hx)) hL (by simpa using hlen) (by simp)
 simpa using this
theorem of_abc (u : Value) (w : World) (b : Nat) {t : TypeId} {f : Nat × Nat} (h : w.heap[b]? = some (.cells #[u] t f)) (hB : BIn w u [97, 98, 99]) (hL : Laid w) :
  ∃ cs : Array Value, cs.size = 32 ∧ cs[0]? = some (.int .u8 186) ∧ cs[1]? = some (.int .u8 120) ∧ cs[31]? = some (.int .u8 173) ∧ cs.all (·.oneCell') = true ∧
  Calls Tryz.prog 63 #[.slice (some ⟨b, 0, none⟩) 1 1] w fun e w' => e = .returned (.agg cs) ∧ Kept (fun _ => False) w w' := by
 refine ⟨(abcDigest.map (Value.int .u8)).toArray, rfl, rfl, rfl, rfl, oneCells _ _, ?_⟩
 have := of_one u [97, 98, 99] w b h hB (by decide) hL (by decide)
 rw [sha_abc] at this
 exact this
end Go.Proofs.YtjdbmjkidljhpaaGreatDoor

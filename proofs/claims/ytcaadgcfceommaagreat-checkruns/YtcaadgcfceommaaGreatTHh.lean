import Derived.Test.YtcaadgcfceommaaGreatTHg
import Derived.Test.YtcaadgcfceommaaGreatTHe0
namespace Go.Proofs.YtcaadgcfceommaaGreat
open Go.RowKit
set_option linter.unusedVariables false
set_option linter.unusedSimpArgs false
set_option maxRecDepth 100000
structure IsTop (ss : List ST) (n : Nat) (H : List Int) (T : Int) : Prop where
 lo : 0 ≤ T
 ub : ∀ i s, i < n → ss[i]? = some s → H.getD i 0 ≠ -1 → H.getD i 0 ≤ T ∧ behindS s (H.getD i 0) ≤ T
 is : T = 0 ∨ ∃ i s, i < n ∧ ss[i]? = some s ∧ H.getD i 0 ≠ -1 ∧ (T = H.getD i 0 ∨ T = behindS s (H.getD i 0))
theorem IsTop.le {ss : List ST} {n : Nat} {H : List Int} {T U : Int} (h : IsTop ss n H T) (h' : IsTop ss n H U) : T ≤ U := by
 rcases h.is with e | ⟨i, s, hi, hs, hne, e | e⟩
 ·have := h'.lo; omega
 ·have := (h'.ub i s hi hs hne).1; omega
 ·have := (h'.ub i s hi hs hne).2; omega
theorem IsTop.uniq {ss : List ST} {n : Nat} {H : List Int} {T U : Int} (h : IsTop ss n H T) (h' : IsTop ss n H U) : T = U := Int.le_antisymm (h.le h') (h'.le h)
theorem max2_ge (a b : Int) : a ≤ max2 a b ∧ b ≤ max2 a b ∧ (max2 a b = a ∨ max2 a b = b) := by
 unfold max2
 split <;> omega
theorem topF_fold (b : BD) : ∀ (l : List Int) (t : Int), t ≤ l.foldl (topF b) t ∧ (∀ m ∈ l, b.hs.getD m.toNat 0 ≤ l.foldl (topF b) t ∧ behindS (b.ss.getD m.toNat st0) (b.hs.getD m.toNat 0) ≤ l.foldl (topF b) t) ∧ (l.foldl (topF b) t = t ∨ ∃ m ∈ l, l.foldl (topF b) t = b.hs.getD m.toNat 0 ∨ l.foldl (topF b) t = behindS (b.ss.getD m.toNat st0) (b.hs.getD m.toNat 0))
 | [], t => ⟨Int.le_refl _, fun m hm => by simp at hm, .inl rfl⟩
 | m :: l, t => by
  obtain ⟨h1, h2, h3⟩ := topF_fold b l (topF b t m)
  obtain ⟨a1, a2, a3⟩ := max2_ge t (b.hs.getD m.toNat 0)
  obtain ⟨b1, b2, b3⟩ := max2_ge (max2 t (b.hs.getD m.toNat 0)) (behindS (b.ss.getD m.toNat st0) (b.hs.getD m.toNat 0))
  have e : topF b t m = max2 (max2 t (b.hs.getD m.toNat 0)) (behindS (b.ss.getD m.toNat st0) (b.hs.getD m.toNat 0)) := rfl
  rw [← e] at b1 b2 b3
  refine ⟨by show t ≤ l.foldl (topF b) (topF b t m); omega, fun x hx => ?_, ?_⟩
  ·show _ ≤ l.foldl (topF b) (topF b t m) ∧ _ ≤ l.foldl (topF b) (topF b t m)
   rcases List.mem_cons.1 hx with rfl | hx
   ·exact ⟨by omega, by omega⟩
   ·exact h2 x hx
  ·show l.foldl (topF b) (topF b t m) = t ∨ _
   rcases h3 with h3 | ⟨x, hx, h3⟩
   ·rcases b3 with b3 | b3
    ·rcases a3 with a3 | a3
     ·left; omega
     ·right; exact ⟨m, by simp, .inl (by show l.foldl (topF b) (topF b t m) = _; omega)⟩
    ·right; exact ⟨m, by simp, .inr (by show l.foldl (topF b) (topF b t m) = _; omega)⟩
   ·right; exact ⟨x, by simp [hx], h3⟩
theorem getD_some {ss : List ST} {i : Nat} {s : ST} (h : ss[i]? = some s) : ss.getD i st0 = s := by simp [List.getD, h]
theorem order_iff {ss : List ST} {n : Nat} (hok : SsOk ss n) {b : BD} (hb : bodyD ss n = .ok b) : (∀ m ∈ b.order, 0 ≤ m ∧ m < n ∧ b.hs.getD m.toNat 0 ≠ -1) ∧ ∀ i, i < n → b.hs.getD i 0 ≠ -1 → (i : Int) ∈ b.order := by
 unfold bodyD at hb
 cases hh : heightsD ss n with
 | error z => rw [hh] at hb; cases hb
 | ok hs =>
  rw [hh] at hb
  cases hb
  have hF := heights_fit ss n hok hs hh
  have hn := hok.pos.1
  have hR : ∀ i, i < n → hs.getD i 0 ≠ -1 → ∀ m ∈ nxOf ss i, 0 ≤ m ∧ m < n ∧ hs.getD m.toNat 0 ≠ -1 := fun i hi hne m hm => by
   have hlt : i < ss.length := by rw [hok.len]; exact hi
   have hs1 : ss[i]? = some ss[i] := List.getElem?_eq_getElem hlt
   have hm' : m ∈ ss[i].nx := by unfold nxOf at hm; rw [getD_some hs1] at hm; exact hm
   obtain ⟨f1, c1⟩ := hF.ok i _ hi hs1 hne
   obtain ⟨d1, d2, d3⟩ := c1 m hm'
   have hsm := List.mem_of_getElem? hs1
   obtain ⟨e1, _, _⟩ := fault_zero (hok.stb _ hsm) (hok.cp _ hsm) (fun m hm => (hok.nx _ hsm).1 m hm) f1
   exact ⟨d1, d2, by rw [d3]; omega⟩
  obtain ⟨t1, t2, t3⟩ := tour_all (nxOf ss) n (fun i => hs.getD i 0 ≠ -1) hn (by show hs.getD 0 0 ≠ -1; rw [hF.z]; omega) hR
  refine ⟨t2, fun i hi hne => ?_⟩
  have hrc := hF.rc i hi hne
  clear hi hne
  show (i : Int) ∈ (tourP (nxOf ss) n).order
  induction hrc with
  | zero => exact t1
  | step h hs1 hx ih =>
   rename_i i s x
   have h9 := t3 i ih x (by unfold nxOf; rw [getD_some hs1]; exact hx)
   have hx0 := (t2 x h9).1
   rw [Int.toNat_of_nonneg hx0]
   exact h9
theorem top_is {ss : List ST} {n : Nat} (hok : SsOk ss n) {b : BD} (hb : bodyD ss n = .ok b) : IsTop ss n b.hs (topP b) := by
 obtain ⟨h1, h2⟩ := order_iff hok hb
 obtain ⟨t1, t2, t3⟩ := topF_fold b b.order 0
 have hss : b.ss = ss := by
  unfold bodyD at hb
  cases hh : heightsD ss n with
  | error z => rw [hh] at hb; cases hb
  | ok hs => rw [hh] at hb; cases hb; rfl
 refine ⟨t1, fun i s hi hs hne => ?_, ?_⟩
 ·have h9 := t2 _ (h2 i hi hne)
  simp only [Int.toNat_natCast] at h9
  rw [hss, getD_some hs] at h9
  exact h9
 ·rcases t3 with t3 | ⟨m, hm, t3⟩
  ·exact .inl t3
  ·obtain ⟨m0, m1, m2⟩ := h1 m hm
   have hlt : m.toNat < ss.length := by rw [hok.len]; omega
   have hs1 : ss[m.toNat]? = some ss[m.toNat] := List.getElem?_eq_getElem hlt
   rw [hss, getD_some hs1] at t3
   exact .inr ⟨m.toNat, _, by omega, hs1, m2, t3⟩
theorem count_set {l : List Bool} {i : Nat} (hi : i < l.length) (h : l.getD i false = false) : (l.set i true).count false + 1 = l.count false := by
 have hg : l[i] = false := by rw [← h]; simp [List.getD, List.getElem?_eq_getElem hi]
 have hpos : 0 < l.count false := List.count_pos_iff.2 (by rw [← hg]; exact List.getElem_mem hi)
 rw [List.count_set hi, hg]
 simp
 omega
structure AgK (w wr : World) (gb gc nc : Nat) (pv : Array Value) (hv : Value) (hs : List Int) (cs : List Bool) : Prop where
 box : wr.heap[gb]? = some (.cells pv 25 (0, 0))
 hh : OwnN wr 0 hv hs
 cc : wr.ownsRow w.heap.size 4 1 (.slice (some ⟨gc, 0, none⟩) nc nc) nc (bools cs)
 kept : KF w wr
 cl : cs.length = nc
section
variable {w wr w' : World} {gb gc nc : Nat} {pv : Array Value} {hv : Value} {hs : List Int} {cs : List Bool}
theorem AgK.same (h : AgK w wr gb gc nc pv hv hs cs) (hk : KF wr w') : AgK w w' gb gc nc pv hv hs cs :=
 ⟨box_kept hk h.box id, hk.ownsRow h.hh (fun _ _ f => f), hk.ownsRow h.cc (fun _ _ f => f), h.kept.trans hk, h.cl⟩
theorem AgK.set (h : AgK w wr gb gc nc pv hv hs cs) (i : Nat) : AgK w (wr.setCell ⟨gc, i, none⟩ (.bool true)) gb gc nc pv hv hs (cs.set i true) := by
 have hk := kept_set wr gc i (.bool true)
 refine ⟨box_kept hk h.box (fun e => own_box2 h.cc h.box (by decide) (by rw [e]; rfl)), hk.ownsRow h.hh (fun q hq e => own_two h.hh h.cc (by decide) q hq (by rw [e]; rfl)), ?_, h.kept.step hk (fun j hj e => by have := (h.cc.lt gc rfl).1; omega), by rw [List.length_set]; exact h.cl⟩
 rw [show bools (cs.set i true) = (bools cs).set i (.bool true) by simp [bools, List.map_set]]
 exact (World.ownsRow.stored h.cc i (.bool true)).1
theorem AgK.cAt (h : AgK w wr gb gc nc pv hv hs cs) {i : Nat} (hi : i < nc) : wr.cell? ⟨gc, i, none⟩ = some (.bool (cs.getD i false)) ∧ wr.frozen? ⟨gc, i, none⟩ = false := by
 refine ⟨?_, World.ownsRow.frozenAt h.cc _⟩
 rw [h.cc.cellAt _ (by omega)]
 have hi' : i < cs.length := by rw [h.cl]; exact hi
 simp [bools, List.getD, List.getElem?_eq_getElem hi']
end
end Go.Proofs.YtcaadgcfceommaaGreat

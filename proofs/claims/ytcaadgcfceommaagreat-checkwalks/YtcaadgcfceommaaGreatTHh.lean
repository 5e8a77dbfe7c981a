/-
  THh: Hh.
-/
import Derived.Test.YtcaadgcfceommaaGreatTHg
import Derived.Test.YtcaadgcfceommaaGreatTHe0
namespace Go.Proofs.YtcaadgcfceommaaGreat
open Go.RowKit
set_option linter.unusedVariables false
set_option linter.unusedSimpArgs false
set_option maxRecDepth 100000

/-- The greatest height. -/
structure IsTop (ss : List ST) (n : Nat) (H : List Int) (T : Int) : Prop where
  lo : 0 ≤ T
  ub : ∀ i s, i < n → ss[i]? = some s → H.getD i 0 ≠ -1 → H.getD i 0 ≤ T ∧ behindS s (H.getD i 0) ≤ T
  is : T = 0 ∨ ∃ i s, i < n ∧ ss[i]? = some s ∧ H.getD i 0 ≠ -1 ∧ (T = H.getD i 0 ∨ T = behindS s (H.getD i 0))
theorem IsTop.le {ss : List ST} {n : Nat} {H : List Int} {T U : Int} (h : IsTop ss n H T) (h' : IsTop ss n H U) : T ≤ U := by
  rcases h.is with e | ⟨i, s, hi, hs, hne, e | e⟩
  · have := h'.lo; omega
  · have := (h'.ub i s hi hs hne).1; omega
  · have := (h'.ub i s hi hs hne).2; omega
theorem max2_ge (a b : Int) : a ≤ max2 a b ∧ b ≤ max2 a b ∧ (max2 a b = a ∨ max2 a b = b) := by
  unfold max2
  split <;> omega
theorem topF_fold (b : BD) : ∀ (l : List Int) (t : Int), t ≤ l.foldl (topF b) t ∧ (∀ m ∈ l, b.hs.getD m.toNat 0 ≤ l.foldl (topF b) t ∧ behindS (b.ss.getD m.toNat st0) (b.hs.getD m.toNat 0) ≤ l.foldl (topF b) t) ∧ (l.foldl (topF b) t = t ∨ ∃ m ∈ l, l.foldl (topF b) t = b.hs.getD m.toNat 0 ∨ l.foldl (topF b) t = behindS (b.ss.getD m.toNat st0) (b.hs.getD m.toNat 0))
  | [], t => ⟨Int.le_refl _, fun m hm => by simp at hm, .inl rfl⟩
  | m :: l, t => by
    obtain ⟨h1, h2, h3⟩ := topF_fold b l (topF b t m)
    obtain ⟨a1, a2, a3⟩ := max2_ge t (b.hs.getD m.toNat 0)
    obtain ⟨b1, b2, b3⟩ := max2_ge (max2 t (b.hs.getD m.toNat 0)) (behindS (b.ss.getD m.toNat st0) (b.hs.getD m.toNat 0))
    have e : topF b t m = max2 (max2 t (b.hs.getD m.toNat 0)) (behindS (b.ss.getD m.toNat st0) (b.hs.getD m.toNat 0)) := rfl
    rw [← e] at b1 b2 b3
    refine ⟨by show t ≤ l.foldl (topF b) (topF b t m); omega, fun x hx => ?_, ?_⟩
    · show _ ≤ l.foldl (topF b) (topF b t m) ∧ _ ≤ l.foldl (topF b) (topF b t m)
      rcases List.mem_cons.1 hx with rfl | hx
      · exact ⟨by omega, by omega⟩
      · exact h2 x hx
    · show l.foldl (topF b) (topF b t m) = t ∨ _
      rcases h3 with h3 | ⟨x, hx, h3⟩
      · rcases b3 with b3 | b3
        · rcases a3 with a3 | a3
          · left; omega
          · right; exact ⟨m, by simp, .inl (by show l.foldl (topF b) (topF b t m) = _; omega)⟩
        · right; exact ⟨m, by simp, .inr (by show l.foldl (topF b) (topF b t m) = _; omega)⟩
      · right; exact ⟨x, by simp [hx], h3⟩
theorem getD_some {ss : List ST} {i : Nat} {s : ST} (h : ss[i]? = some s) : ss.getD i st0 = s := by simp [List.getD, h]
/-- The order is the places that have a height. -/
theorem order_iff {ss : List ST} {n : Nat} (hok : SsOk ss n) {b : BD} (hb : bodyD ss n = .ok b) : (∀ m ∈ b.order, 0 ≤ m ∧ m < n ∧ b.hs.getD m.toNat 0 ≠ -1) ∧ ∀ i, i < n → b.hs.getD i 0 ≠ -1 → (i : Int) ∈ b.order := by
  unfold bodyD at hb
  cases hh : heightsD ss n with
  | error z => rw [hh] at hb; cases hb
  | ok hs =>
    rw [hh] at hb
    cases hb
    have hF := heights_fit ss n hok hs hh
    have hn := hok.pos.1
    have hR : ∀ i, i < n → hs.getD i 0 ≠ -1 → ∀ m ∈ nxOf ss i, 0 ≤ m ∧ m < n ∧ hs.getD m.toNat 0 ≠ -1 := fun i hi hne m hm => by
      have hlt : i < ss.length := by rw [hok.len]; exact hi
      have hs1 : ss[i]? = some ss[i] := List.getElem?_eq_getElem hlt
      have hm' : m ∈ ss[i].nx := by unfold nxOf at hm; rw [getD_some hs1] at hm; exact hm
      obtain ⟨f1, c1⟩ := hF.ok i _ hi hs1 hne
      obtain ⟨d1, d2, d3⟩ := c1 m hm'
      have hsm := List.mem_of_getElem? hs1
      obtain ⟨e1, _, _⟩ := fault_zero (hok.stb _ hsm) (hok.cp _ hsm) (fun m hm => (hok.nx _ hsm).1 m hm) f1
      exact ⟨d1, d2, by rw [d3]; omega⟩
    obtain ⟨t1, t2, t3⟩ := tour_all (nxOf ss) n (fun i => hs.getD i 0 ≠ -1) hn (by show hs.getD 0 0 ≠ -1; rw [hF.z]; omega) hR
    refine ⟨t2, fun i hi hne => ?_⟩
    have hrc := hF.rc i hi hne
    clear hi hne
    show (i : Int) ∈ (tourP (nxOf ss) n).order
    induction hrc with
    | zero => exact t1
    | step h hs1 hx ih =>
      rename_i i s x
      have h9 := t3 i ih x (by unfold nxOf; rw [getD_some hs1]; exact hx)
      have hx0 := (t2 x h9).1
      rw [Int.toNat_of_nonneg hx0]
      exact h9
theorem top_is {ss : List ST} {n : Nat} (hok : SsOk ss n) {b : BD} (hb : bodyD ss n = .ok b) : IsTop ss n b.hs (topP b) := by
  obtain ⟨h1, h2⟩ := order_iff hok hb
  obtain ⟨t1, t2, t3⟩ := topF_fold b b.order 0
  have hss : b.ss = ss := by
    unfold bodyD at hb
    cases hh : heightsD ss n with
    | error z => rw [hh] at hb; cases hb
    | ok hs => rw [hh] at hb; cases hb; rfl
  refine ⟨t1, fun i s hi hs hne => ?_, ?_⟩
  · have h9 := t2 _ (h2 i hi hne)
    simp only [Int.toNat_natCast] at h9
    rw [hss, getD_some hs] at h9
    exact h9
  · rcases t3 with t3 | ⟨m, hm, t3⟩
    · exact .inl t3
    · obtain ⟨m0, m1, m2⟩ := h1 m hm
      have hlt : m.toNat < ss.length := by rw [hok.len]; omega
      have hs1 : ss[m.toNat]? = some ss[m.toNat] := List.getElem?_eq_getElem hlt
      rw [hss, getD_some hs1] at t3
      exact .inr ⟨m.toNat, _, by omega, hs1, m2, t3⟩
/-- A place is done: its heights are counted, and one comes to all behind it. -/
def DoneC (ss : List ST) (H : List Int) (cs : List Bool) (most : Int) (j : Nat) : Prop := ∀ s, ss[j]? = some s → H.getD j 0 ≤ most ∧ behindS s (H.getD j 0) ≤ most ∧ ∀ m ∈ s.nx, cs.getD m.toNat false = true
/-- While places are come to. -/
structure CmI (ss : List ST) (n : Nat) (H : List Int) (cs : List Bool) (most : Int) : Prop where
  len : cs.length = n
  c0 : cs.getD 0 false = true
  rc : ∀ i, i < n → cs.getD i false = true → H.getD i 0 ≠ -1
  lo : 0 ≤ most ∧ most ≤ 256
  is : most = 0 ∨ ∃ i s, i < n ∧ ss[i]? = some s ∧ H.getD i 0 ≠ -1 ∧ (most = H.getD i 0 ∨ most = behindS s (H.getD i 0))
theorem DoneC.mono {ss : List ST} {H : List Int} {cs cs' : List Bool} {a b : Int} {j : Nat} (h : DoneC ss H cs a j) (hab : a ≤ b) (hcs : ∀ i, cs.getD i false = true → cs'.getD i false = true) : DoneC ss H cs' b j := fun s hs => by
  obtain ⟨h1, h2, h3⟩ := h s hs
  exact ⟨by omega, by omega, fun m hm => hcs _ (h3 m hm)⟩
theorem getB_set {l : List Bool} {i : Nat} (hi : i < l.length) (j : Nat) : (l.set i true).getD j false = if i = j then true else l.getD j false := by
  by_cases e : i = j
  · subst e; rw [if_pos rfl]; simp [List.getD, hi]
  · rw [if_neg e]; simp [List.getD, List.getElem?_set, e]
theorem set_mono {l : List Bool} {i : Nat} (hi : i < l.length) : ∀ j, l.getD j false = true → (l.set i true).getD j false = true := fun j h => by
  rw [getB_set hi]
  split
  · rfl
  · exact h
theorem CmI.set {ss : List ST} {n : Nat} {H : List Int} {cs : List Bool} {most : Int} (h : CmI ss n H cs most) {m : Nat} (hm : m < n) (hH : H.getD m 0 ≠ -1) : CmI ss n H (cs.set m true) most := by
  have hl : m < cs.length := by rw [h.len]; exact hm
  refine ⟨by rw [List.length_set]; exact h.len, set_mono hl 0 h.c0, fun i hi hc => ?_, h.lo, h.is⟩
  rw [getB_set hl] at hc
  split at hc
  · rename_i e; subst e; exact hH
  · exact h.rc i hi hc
theorem count_set {l : List Bool} {i : Nat} (hi : i < l.length) (h : l.getD i false = false) : (l.set i true).count false + 1 = l.count false := by
  have hg : l[i] = false := by rw [← h]; simp [List.getD, List.getElem?_eq_getElem hi]
  have hpos : 0 < l.count false := List.count_pos_iff.2 (by rw [← hg]; exact List.getElem_mem hi)
  rw [List.count_set hi, hg]
  simp
  omega
theorem CmI.most {ss : List ST} {n : Nat} {H : List Int} {cs : List Bool} {most : Int} (h : CmI ss n H cs most) {i : Nat} {s : ST} (hi : i < n) (hs : ss[i]? = some s) (hH : H.getD i 0 ≠ -1) (h1 : H.getD i 0 ≤ 256) (h2 : behindS s (H.getD i 0) ≤ 256) : CmI ss n H cs (max2 (max2 most (H.getD i 0)) (behindS s (H.getD i 0))) := by
  obtain ⟨a1, a2, a3⟩ := max2_ge most (H.getD i 0)
  obtain ⟨b1, b2, b3⟩ := max2_ge (max2 most (H.getD i 0)) (behindS s (H.getD i 0))
  have hl := h.lo
  refine ⟨h.len, h.c0, h.rc, ⟨by omega, by omega⟩, ?_⟩
  rcases b3 with b3 | b3
  · rcases a3 with a3 | a3
    · rw [b3, a3]; exact h.is
    · rw [b3, a3]; exact .inr ⟨i, s, hi, hs, hH, .inl rfl⟩
  · rw [b3]; exact .inr ⟨i, s, hi, hs, hH, .inr rfl⟩
/-- All that is reached is come to. -/
theorem CmI.all {ss : List ST} {n : Nat} {H : List Int} {cs : List Bool} {most : Int} (hok : SsOk ss n) (hF : Fit ss n H) (h : CmI ss n H cs most) (hd : ∀ j, j < n → cs.getD j false = true → DoneC ss H cs most j) : (∀ i, i < n → cs.getD i false = false → H.getD i 0 = -1) ∧ IsTop ss n H most := by
  have key : ∀ i, Rch ss i → i < n ∧ cs.getD i false = true := fun i hr => by
    induction hr with
    | zero => exact ⟨by have := hok.pos.1; omega, h.c0⟩
    | step _ hs1 hx ih =>
      obtain ⟨i1, i2⟩ := ih
      obtain ⟨_, _, d3⟩ := hd _ i1 i2 _ hs1
      obtain ⟨_, c⟩ := hF.ok _ _ i1 hs1 (h.rc _ i1 i2)
      obtain ⟨e1, e2, _⟩ := c _ hx
      exact ⟨by omega, d3 _ hx⟩
  have hall : ∀ i, i < n → H.getD i 0 ≠ -1 → cs.getD i false = true := fun i hi hne => (key i (hF.rc i hi hne)).2
  refine ⟨fun i hi hc => ?_, ⟨h.lo.1, fun i s hi hs hne => ?_, h.is⟩⟩
  · by_cases e : H.getD i 0 = -1
    · exact e
    · rw [hall i hi e] at hc; cases hc
  · obtain ⟨d1, d2, _⟩ := hd i hi (hall i hi hne) s hs
    exact ⟨d1, d2⟩
theorem CmI.start {ss : List ST} {n : Nat} {H : List Int} (hn : 1 ≤ n) (hF : Fit ss n H) : CmI ss n H ((List.replicate n false).set 0 true) 0 := by
  have hl : 0 < (List.replicate n false).length := by simp; omega
  refine ⟨by simp, by rw [getB_set hl]; simp, fun i hi hc => ?_, ⟨by omega, by omega⟩, .inl rfl⟩
  rw [getB_set hl] at hc
  split at hc
  · rename_i e; subst e; rw [hF.z]; omega
  · simp [List.getD, hi] at hc
/-- In memory. -/
structure AgK (w wr : World) (gb gc nc : Nat) (pv : Array Value) (hv : Value) (hs : List Int) (cs : List Bool) : Prop where
  box : wr.heap[gb]? = some (.cells pv 25 (0, 0))
  hh : OwnN wr 0 hv hs
  cc : wr.ownsRow w.heap.size 4 1 (.slice (some ⟨gc, 0, none⟩) nc nc) nc (bools cs)
  kept : Kept (fun _ => False) w wr
  cl : cs.length = nc
section
variable {w wr w' : World} {gb gc nc : Nat} {pv : Array Value} {hv : Value} {hs : List Int} {cs : List Bool}
theorem AgK.same (h : AgK w wr gb gc nc pv hv hs cs) (hk : Kept (fun _ => False) wr w') : AgK w w' gb gc nc pv hv hs cs :=
  ⟨box_kept hk h.box (fun f => f), hk.ownsRow h.hh (fun _ _ f => f), hk.ownsRow h.cc (fun _ _ f => f), h.kept.trans hk, h.cl⟩
theorem AgK.set (h : AgK w wr gb gc nc pv hv hs cs) (i : Nat) : AgK w (wr.setCell ⟨gc, i, none⟩ (.bool true)) gb gc nc pv hv hs (cs.set i true) := by
  have hk := kept_set wr gc i (.bool true)
  refine ⟨box_kept hk h.box (fun e => own_box2 h.cc h.box (by decide) (by rw [e]; rfl)), hk.ownsRow h.hh (fun q hq e => own_two h.hh h.cc (by decide) q hq (by rw [e]; rfl)), ?_, h.kept.step hk (fun j hj e => by have := (h.cc.lt gc rfl).1; omega), by rw [List.length_set]; exact h.cl⟩
  rw [show bools (cs.set i true) = (bools cs).set i (.bool true) by simp [bools, List.map_set]]
  exact (World.ownsRow.stored h.cc i (.bool true)).1
theorem AgK.cAt (h : AgK w wr gb gc nc pv hv hs cs) {i : Nat} (hi : i < nc) : wr.cell? ⟨gc, i, none⟩ = some (.bool (cs.getD i false)) ∧ wr.frozen? ⟨gc, i, none⟩ = false := by
  refine ⟨?_, World.ownsRow.frozenAt h.cc _⟩
  rw [h.cc.cellAt _ (by omega)]
  have hi' : i < cs.length := by rw [h.cl]; exact hi
  simp [bools, List.getD, List.getElem?_eq_getElem hi']
theorem AgK.list (h : AgK w wr gb gc nc pv hv hs cs) {b : Nat} {lv : Value} {ms : List Int} (hl : OwnN wr b lv ms) (i : Nat) : OwnN (wr.setCell ⟨gc, i, none⟩ (.bool true)) b lv ms :=
  (kept_set wr gc i (.bool true)).ownsRow hl (fun q hq e => own_two hl h.cc (by decide) q hq (by rw [e]; rfl))
end
end Go.Proofs.YtcaadgcfceommaaGreat

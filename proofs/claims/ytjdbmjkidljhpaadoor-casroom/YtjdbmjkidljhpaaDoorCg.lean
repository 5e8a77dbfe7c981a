/-
  Cg: Csteps2, Cinv, Cfw0, Cseq, Cseq2, Crow, Cown, Calla, Cord, Csort, Crec, Creck, Croom0.
-/
import Derived.Test.YtjdbmjkidljhpaaDoorCf1
import Derived.Deep.Strs
import Derived.OpenShut
import Derived.ChangeOld
import Derived.Test.YtjdbmjkidljhpaaDoorCall
import Derived.Maps.RangeRun
import Derived.Great.BuildSlice
import Derived.Shelf.SlMaps.Clone
import Derived.Lib.BytesEntry
import Derived.Shelf.SlSortCmp.WholeK
import Derived.Test.YtjdbmjkidljhpaaDoorCalls
import Derived.Shelf.Lay
import Derived.Ground.SlsfProg
namespace Go.Proofs.YtjdbmjkidljhpaaDoor
open Go.ChangeShapes Go.WideShapes Go.ChangeAt Go.RowKit Go.Deep
set_option linter.unusedVariables false
set_option linter.unusedSimpArgs false
set_option maxRecDepth 100000

/-- One step of a script. -/
structure Stp where
  kd : Int
  bv : Value
  xs : List Int
  cv : Value
  ys : List Int
  d : List Int
  own : Bool
  n : Int
def Stp.cells (t : Stp) : List Value := .int .i64 t.kd :: t.bv :: t.cv :: (t.d.map (Value.int .u8) ++ [.bool t.own, .int .i64 t.n])
structure Stp.Ok (w : World) (t : Stp) : Prop where
  bb : BIn w t.bv t.xs
  br : ∀ x ∈ t.xs, 0 ≤ x ∧ x < 256
  cb : BIn w t.cv t.ys
  cr : ∀ x ∈ t.ys, 0 ≤ x ∧ x < 256
  dl : t.d.length = 32
  dr : ∀ x ∈ t.d, 0 ≤ x ∧ x < 256
  bl : t.xs.length ≤ maxLen
  cl : t.ys.length ≤ maxLen
/-- A value is a slice of steps. -/
def TIs (w : World) (v : Value) (ts : List Stp) : Prop :=
  ∃ ao cap, v = .slice ao ts.length cap ∧ ts.length ≤ maxLen ∧ ∀ i t, ts[i]? = some t → t.Ok w ∧ ∃ g o, ao = some ⟨g, o, none⟩ ∧ w.rangeAt g (o + i * 37) t.cells

theorem cells30 : Tryd.prog.cellsOf 30 = 37 := by kernel_rfl
theorem cells26 : Tryd.prog.cellsOf 26 = 1 := by kernel_rfl
theorem cells28 : Tryd.prog.cellsOf 28 = 32 := by kernel_rfl
theorem cells3 : Tryd.prog.cellsOf 3 = 1 := by kernel_rfl
theorem cells4 : Tryd.prog.cellsOf 4 = 1 := by kernel_rfl
theorem cells5' : Tryd.prog.cellsOf 5 = 1 := by kernel_rfl
section
variable {H : Type} {enc : TypeId × Value → H} {W : World} {base : Nat} {spare : Nat → Bool} {held : Bool}
theorem open_by {fuel : Nat} {v : Value} {x : DataW H × List MemPlace} (h : DataW.trod enc Tryd.prog W base spare held fuel 26 [v] = some x) :
    ∃ xs : List Int, BIn W v xs ∧ (∀ y ∈ xs, 0 ≤ y ∧ y < 256) ∧ xs.length ≤ maxLen := by
  rcases open_ints Tryd.underlying26 Tryd.underlying5 cells5' h with ⟨hcs, _⟩ | ⟨a, len, cap, zs, hcs, hb, hl, hm, hz, _, hcell, hwz⟩
  · cases hcs
    exact ⟨[], ⟨none, 0, rfl, Nat.le_refl _, .inl rfl⟩, fun y hy => (by cases hy), Nat.zero_le _⟩
  · cases hcs
    have hle : len ≤ zs.length := by rw [hz]; split <;> omega
    have hlen : (zs.take len).length = len := by rw [List.length_take]; omega
    refine ⟨zs.take len, ?_, fun y hy => ?_, by rw [hlen]; omega⟩
    · by_cases h0 : len = 0
      · exact ⟨some a, cap, by rw [hlen], by omega, .inl (by rw [h0]; rfl)⟩
      · obtain ⟨b, off, spot⟩ := a
        have hc := hcell 0 (by omega)
        have hspot : spot = none := by simpa [Addr.add] using World.cell?_spot hc
        subst hspot
        refine ⟨_, cap, by rw [hlen], by omega, .inr ⟨b, off, rfl, fun i hi => ?_⟩⟩
        rw [hlen] at hi
        have := hcell i (by omega)
        rw [Addr.add_mid] at this
        rw [this]
        simp [List.getD, List.getElem?_take, hi]
    · have b := bounds_u8 (hwz y (List.mem_of_mem_take hy))
      omega
theorem open_d {fuel : Nat} {cs : List Value} {x : DataW H × List MemPlace} (h : DataW.trod enc Tryd.prog W base spare held fuel 28 cs = some x) : ∃ d : List Int, d.length = 32 ∧ cs = d.map (Value.int .u8) ∧ ∀ y ∈ d, 0 ≤ y ∧ y < 256 := by
  obtain ⟨ys, m, _, _, hlen, hl, hel⟩ := DataW.trod_array Tryd.underlying28 h
  rw [cells28] at hlen
  have key : ∀ i, i < 32 → ∃ n : Int, cs[i]? = some (.int .u8 n) ∧ 0 ≤ n ∧ n < 256 := by
    intro i hi
    have h0 := hel i hi
    rw [cells5', Nat.mul_one, List.getElem?_eq_getElem (by omega)] at h0
    obtain ⟨n, e1, _, hw⟩ := DataW.trod_int Tryd.underlying5 h0
    have := congrArg (fun l => l[0]?) e1
    have b := bounds_u8 hw
    exact ⟨n, by simpa [List.getElem?_take, List.getElem?_drop] using this, b.1, by omega⟩
  refine ⟨cs.map intOf, by simp [hlen], ?_, fun y hy => ?_⟩
  · apply List.ext_getElem?
    intro i
    by_cases hi : i < 32
    · obtain ⟨n, hn, _⟩ := key i hi
      rw [hn]
      simp [hn, intOf]
    · rw [List.getElem?_eq_none (by omega), List.getElem?_eq_none (by simp; omega)]
  · obtain ⟨u, hu, rfl⟩ := List.mem_map.1 hy
    obtain ⟨i, hi, rfl⟩ := List.getElem_of_mem hu
    obtain ⟨n, hn, hn2⟩ := key i (by omega)
    rw [List.getElem?_eq_getElem hi] at hn
    rw [Option.some.inj hn]
    exact hn2
set_option maxRecDepth 100000 in
theorem open_step {fuel : Nat} {cs : List Value} {x : DataW H × List MemPlace} (h : DataW.trod enc Tryd.prog W base spare held fuel 30 cs = some x) : ∃ t : Stp, cs = t.cells ∧ t.Ok W := by
  obtain ⟨ys, n, _, _, hl, hlen, hf⟩ := DataW.trod_struct Tryd.underlying30 h
  rw [cells30] at hl
  match ys, hlen with
  | [y0, y1, y2, y3, y4, y5], _ =>
    have g0 : DataW.trod enc Tryd.prog W base spare held n 3 ((cs.drop 0).take 1) = some y0 := by simpa [cells3] using hf 0 _ rfl
    have g1 : DataW.trod enc Tryd.prog W base spare held n 26 ((cs.drop 1).take 1) = some y1 := by simpa [cells26] using hf 1 _ rfl
    have g2 : DataW.trod enc Tryd.prog W base spare held n 26 ((cs.drop 2).take 1) = some y2 := by simpa [cells26] using hf 2 _ rfl
    have g3 : DataW.trod enc Tryd.prog W base spare held n 28 ((cs.drop 3).take 32) = some y3 := by simpa [cells28] using hf 3 _ rfl
    have g4 : DataW.trod enc Tryd.prog W base spare held n 4 ((cs.drop 35).take 1) = some y4 := by simpa [cells4] using hf 4 _ rfl
    have g5 : DataW.trod enc Tryd.prog W base spare held n 3 ((cs.drop 36).take 1) = some y5 := by simpa [cells3] using hf 5 _ rfl
    have e1 : (cs.drop 1).take 1 = [cs[1]'(by omega)] := by rw [List.drop_eq_getElem_cons (by omega)]; rfl
    have e2 : (cs.drop 2).take 1 = [cs[2]'(by omega)] := by rw [List.drop_eq_getElem_cons (by omega)]; rfl
    obtain ⟨kd, e0, _, wk⟩ := DataW.trod_int Tryd.underlying3 g0
    rw [e1] at g1
    rw [e2] at g2
    obtain ⟨xs, b1, b2, b3⟩ := open_by g1
    obtain ⟨zs, c1, c2, c3⟩ := open_by g2
    obtain ⟨d, d1, d2, d3⟩ := open_d g3
    obtain ⟨own, e4, _⟩ := DataW.trod_bool Tryd.underlying4 g4
    obtain ⟨nn, e5, _, wn⟩ := DataW.trod_int Tryd.underlying3 g5
    refine ⟨⟨kd, cs[1]'(by omega), xs, cs[2]'(by omega), zs, d, own, nn⟩, ?_, ⟨b1, b2, c1, c2, d1, d3, b3, c3⟩⟩
    have q : cs = (cs.drop 0).take 1 ++ ((cs.drop 1).take 1 ++ ((cs.drop 2).take 1 ++ ((cs.drop 3).take 32 ++ ((cs.drop 35).take 1 ++ (cs.drop 36).take 1)))) := by
      apply List.ext_getElem?
      intro i
      simp only [List.getElem?_append, List.length_take, List.length_drop, List.getElem?_take, List.getElem?_drop, hl]
      repeat' split
      all_goals (first | (congr 1; omega) | (rw [List.getElem?_eq_none (by omega)]) | omega)
    rw [e0, e1, e2, d2, e4, e5] at q
    exact q
theorem open_steps {fuel : Nat} {v : Value} {x : DataW H × List MemPlace} (h : DataW.trod enc Tryd.prog W base spare held fuel 22 [v] = some x) : ∃ ts : List Stp, TIs W v ts := by
  rcases open_slice Tryd.underlying22 h with ⟨hcs, _⟩ | ⟨a, len, cap, m, n, D, Pl, hcs, hb, hl, hm, hm', _, hel⟩
  · cases hcs
    exact ⟨[], none, 0, rfl, Nat.zero_le _, fun i t ht => by cases ht⟩
  · cases hcs
    by_cases h0 : len = 0
    · exact ⟨[], some a, cap, by rw [h0]; rfl, Nat.zero_le _, fun i t ht => by cases ht⟩
    · have hlm : len ≤ m := by rw [hm']; split <;> omega
      rw [cells30] at hel
      have hin : Inhabited Stp := ⟨⟨0, .slice none 0 0, [], .slice none 0 0, [], [], false, 0⟩⟩
      obtain ⟨f, hf⟩ := choose_lt (n := len) (p := fun i (y : Stp) => W.cells? base (a.add (i * 37)) 37 = some y.cells ∧ y.Ok W) (fun i hi => by
        obtain ⟨cs', h1, h2⟩ := hel i (by omega)
        obtain ⟨y, rfl, h3⟩ := open_step h2
        exact ⟨y, h1, h3⟩)
      have hcell : ∀ i, i < len → ∀ j, j < 37 → W.cell? ((a.add (i * 37)).add j) = (f i).cells[j]? := fun i hi => (World.cells?_some (hf i hi).1).2.2
      have hlc : ∀ i, i < len → (f i).cells.length = 37 := fun i hi => (World.cells?_some (hf i hi).1).2.1
      obtain ⟨b, off, spot⟩ := a
      have hc0 : W.cell? (((⟨b, off, spot⟩ : Addr).add (0 * 37)).add 0) = some (.int .i64 (f 0).kd) := hcell 0 (by omega) 0 (by omega)
      have hspot : spot = none := by simpa [Addr.add] using World.cell?_spot hc0
      subst hspot
      refine ⟨(List.range len).map f, some ⟨b, off, none⟩, cap, by simp, by simp; omega, fun i t ht => ?_⟩
      have hi : i < len := by
        have := (List.getElem?_eq_some_iff.1 ht).1
        simpa using this
      obtain rfl : f i = t := by simpa [hi] using ht
      refine ⟨(hf i hi).2, b, off, rfl, fun j u hj => ?_⟩
      have hj37 : j < 37 := by
        have := (List.getElem?_eq_some_iff.1 hj).1
        rw [hlc i hi] at this
        exact this
      have := hcell i hi j hj37
      rw [Addr.add_mid, Addr.add_mid, hj] at this
      exact this
end
end Go.Proofs.YtjdbmjkidljhpaaDoor

namespace Go.Proofs.YtjdbmjkidljhpaaDoor
open Go.RowKit
set_option linter.unusedVariables false
set_option linter.unusedSimpArgs false
set_option maxRecDepth 100000

theorem Stor.no37 {w : World} {s B n sz : Nat} {mv v : Value} {σ : Sg} {xs : List Value} (h : Stor w s mv σ) (ho : w.ownsRow B 37 sz v n xs) : ∀ g, v.ownBlock = some g → ¬ Own s mv g := by
  intro g hg hown
  rcases ho.2 with ⟨hv, _⟩ | ⟨g', cap, cur, hv, _, hb, _⟩
  · rw [hv] at hg; cases hg
  · rw [hv] at hg
    cases hg
    rcases hown with e | hm
    · rw [show g' = s from e, h.blk] at hb
      cases hb
    · rcases h.map with ⟨h1, _⟩ | ⟨r, c, h1, h2, _⟩
      · rw [h1] at hm; cases hm
      · rw [h1] at hm
        cases hm
        rw [h2] at hb
        cases hb
theorem own_stays {S : Nat → Prop} {w w' : World} {B e sz n : Nat} {v : Value} {xs : List Value} (ho : w.ownsRow B e sz v n xs) (hk : Kept S w w') (hs : ∀ g, v.ownBlock = some g → ¬ S g) : w'.ownsRow B e sz v n xs := by
  refine ⟨ho.1, ?_⟩
  rcases ho.2 with h | ⟨g, cap, cur, hv, hB, hb, rest⟩
  · exact .inl h
  · exact .inr ⟨g, cap, cur, hv, hB, (hk.block g (heap_lt hb) (hs g (by rw [hv]; rfl))).trans hb, rest⟩
/-- What CasFound's loop holds: the Store at s; the list of what was put; n calls, c entries at most. -/
structure Inv (W wr : World) (s k n c : Nat) (lv mv : Value) (σ : Sg) (ps : List Pt) : Prop where
  st : Stor wr s mv σ
  sane : Sane k n σ
  mvf : ∀ r, mv = .map (some r) → W.heap.size ≤ r
  own : wr.ownsRow W.heap.size 37 33 lv ps.length (flat ps)
  ok : ∀ p ∈ ps, p.Ok wr
  few : ps.length ≤ c
  holds : Holds k σ.es ps
  kp : Kept (fun _ => False) W wr
  sf : W.heap.size ≤ s
  dj : ∀ g, lv.ownBlock = some g → ∀ e ∈ σ.es, e.xs ≠ [] → e.bv.ownBlock ≠ some g
  pl : ∀ p ∈ ps, p.xs ≠ [] → ∀ g, p.bv.ownBlock = some g → g < W.heap.size
variable {W wr w' : World} {s k n c : Nat} {lv mv mv' : Value} {σ σ' : Sg} {ps : List Pt}
theorem Inv.quiet (h : Inv W wr s k n c lv mv σ ps) (hk : Kept (fun _ => False) wr w') : Inv W w' s k n c lv mv σ ps :=
  ⟨h.st.kept hk (fun _ _ f => f), h.sane, h.mvf, own_stays h.own hk (fun _ _ f => f), fun p hp => (h.ok p hp).stays hk (fun _ _ _ _ f => f), h.few, h.holds, h.kp.trans hk, h.sf, h.dj, h.pl⟩
theorem Inv.more (h : Inv W wr s k n c lv mv σ ps) {n' c' : Nat} (hn : n ≤ n') (hc : c ≤ c') : Inv W wr s k n' c' lv mv σ ps :=
  ⟨h.st, h.sane.more hn, h.mvf, h.own, h.ok, Nat.le_trans h.few hc, h.holds, h.kp, h.sf, h.dj, h.pl⟩
theorem Inv.after {n' : Nat} (h : Inv W wr s k n c lv mv σ ps) (ha : After wr w' s mv mv' k n' σ σ') (hh : Holds k σ'.es ps) : Inv W w' s k n' c lv mv' σ' ps :=
  ⟨ha.st, ha.sane, fun r hr => by
      rcases ha.mv with h1 | ⟨r', h1, h2⟩
      · rw [h1] at hr; exact h.mvf r hr
      · rw [h1] at hr; cases hr; exact Nat.le_trans h.kp.size h2,
    own_stays h.own ha.kp (h.st.no37 h.own), fun p hp => (h.ok p hp).stays ha.kp (fun g o x hc => h.st.no8 hc), h.few, hh, kept_own h.kp ha.kp h.sf h.mvf, h.sf, fun g hg e he h0 => by
      rcases ha.fr e he with h1 | h1
      · exact h.dj g hg e h1 h0
      · intro e1
        have := h1 g e1
        have := (h.own.lt g hg).2
        omega, h.pl⟩
/-- As above, but the list is not spoken of any more (it is made anew). -/
theorem Inv.after0 {n' : Nat} (h : Inv W wr s k n c lv mv σ ps) (ha : After wr w' s mv mv' k n' σ σ') : Stor w' s mv' σ' ∧ Sane k n' σ' ∧ (∀ r, mv' = .map (some r) → W.heap.size ≤ r) ∧ PIs w' lv ps ∧ (∀ p ∈ ps, p.Ok w') ∧ Kept (fun _ => False) W w' :=
  have ho := own_stays h.own ha.kp (h.st.no37 h.own)
  have hk : ∀ p ∈ ps, p.Ok w' := fun p hp => (h.ok p hp).stays ha.kp (fun g o x hc => h.st.no8 hc)
  ⟨ha.st, ha.sane, fun r hr => by
      rcases ha.mv with h1 | ⟨r', h1, h2⟩
      · rw [h1] at hr; exact h.mvf r hr
      · rw [h1] at hr; cases hr; exact Nat.le_trans h.kp.size h2,
    pis_own ho hk, hk, kept_own h.kp ha.kp h.sf h.mvf⟩
theorem Inv.pis (h : Inv W wr s k n c lv mv σ ps) : PIs wr lv ps := pis_own h.own h.ok
/-- The list without a digest. -/
theorem Inv.without {w2 : World} {lv' : Value} {n' : Nat} {d : List Int} (h : Inv W wr s k n c lv mv σ ps) (ha : After wr w' s mv mv' k n' σ σ') (hh : Holds k σ'.es (others ps d)) (ho : w2.ownsRow w'.heap.size 37 33 lv' (others ps d).length (flat (others ps d))) (hk : Kept (fun _ => False) w' w2) : Inv W w2 s k n' c lv' mv' σ' (others ps d) := by
  obtain ⟨h1, h2, h3, h4, h5, h6⟩ := h.after0 ha
  exact ⟨h1.kept hk (fun _ _ f => f), h2, h3, own_low ho h6.size, fun p hp => (h5 p (List.mem_filter.1 hp).1).stays hk (fun _ _ _ _ f => f), Nat.le_trans (List.length_filter_le _ _) h.few, hh, h6.trans hk, h.sf, fun g hg e he h0 e1 => by
      have := (h1.blob e he).1.blt h0 g e1
      have := (ho.lt g hg).1
      omega, fun p hp => h.pl p (List.mem_filter.1 hp).1⟩
/-- Where an append lays its row. -/
theorem app_where (W : World) (v : Value) (base : Nat) (ps : List Pt) (p : Pt) (hp : p.d.length = 32) (h1 : p.bv.oneCell' = true) (hown : W.ownsRow base 37 33 v ps.length (flat ps)) (hsz : (ps.length + 1) * 56 ≤ 140737488355328)
    (v' : Value) (w' : World) (hr : (Builtin.append_ #[25, 25] 25 #[v, .slice (some ⟨W.heap.size, 0, none⟩) 1 1]).run Tryd.prog (W.alloc (.cells p.cells.toArray 37)) = .ok v' w') : ∀ g, v'.ownBlock = some g → v.ownBlock = some g ∨ W.heap.size ≤ g := by
  obtain ⟨i0, hi, hz0, hz1, hz2⟩ := info_parts info37
  have hnews : ∀ j u, p.cells[j]? = some u → (W.alloc (.cells p.cells.toArray 37)).cell? ((⟨W.heap.size, 0, none⟩ : Addr).add j) = some u := fun j u hj => by
    rw [Addr.add_mid, cell_block _ _ _ _ _ _ (alloc_new _ _ rfl), Nat.zero_add]
    simpa using hj
  have hone : ∀ u ∈ p.cells, u.oneCell' = true := by
    intro u hu
    unfold Pt.cells at hu
    rcases List.mem_append.1 hu with hu | hu
    · obtain ⟨x, _, rfl⟩ := List.mem_map.1 hu
      rfl
    · rw [List.mem_singleton.1 hu]; exact h1
  have hl : p.cells.length = 1 * i0.size := by rw [Pt.clen hp, hz1]
  have ho1 := hown.alloc (.cells p.cells.toArray 37)
  intro g hg
  rcases id ho1.2 with ⟨rfl, h0⟩ | ⟨g0, cap, cur, rfl, hbg, hg0, hnc, hcm, hcs, htake⟩
  · right
    have hnil : (W.alloc (.cells p.cells.toArray 37)).ownsRow (W.alloc (.cells p.cells.toArray 37)).heap.size 37 33 (.slice none 0 0) ps.length (flat ps) := ⟨ho1.1, .inl ⟨rfl, h0⟩⟩
    obtain ⟨v2, w2, hr2, h22, _, _⟩ := run_append_own (P := Tryd.prog) _ _ 25 25 37 i0 _ 33 56 Tryd.underlying25 hi hz0 hz1 hz2 rfl (by decide) _ ps.length (flat ps) hnil ⟨W.heap.size, 0, none⟩ 1 1 p.cells (by rw [Pt.clen hp]) hnews hone (by unfold maxLen; omega) hsz (Nat.le_refl _)
    rw [hr] at hr2
    cases hr2
    have := (h22.lt g hg).1
    simp at this
    omega
  · by_cases hroom : ps.length + 1 ≤ cap
    · left
      have hfit : ps.length * i0.size + p.cells.length ≤ cur.size := by rw [Pt.clen hp, hcs, hz1]; omega
      have hr2 := run_append_room (P := Tryd.prog) (W.alloc (.cells p.cells.toArray 37)) 25 25 37 i0 Tryd.underlying25 hi g0 ps.length cap cur hg0 ⟨W.heap.size, 0, none⟩ 1 1 p.cells hl hnews hone hroom hfit
      rw [hr] at hr2
      cases hr2
      exact hg
    · right
      have hr2 := run_append_grow (P := Tryd.prog) (W.alloc (.cells p.cells.toArray 37)) 25 25 37 i0 _ Tryd.underlying25 hi hz0 ⟨g0, 0, none⟩ ps.length cap (flat ps) (by rw [ho1.1, hz1]) (ho1.cells (g := g0) rfl) ⟨W.heap.size, 0, none⟩ 1 1 p.cells hl hnews (by omega) (by omega) (growslice_fits (by omega) (by rw [hz2]; exact hsz))
      rw [hr] at hr2
      cases hr2
      have : (W.alloc (.cells p.cells.toArray 37)).heap.size = g := by simpa [Value.ownBlock] using hg
      simp at this
      omega
/-- One entry more. -/
theorem Inv.push {w2 : World} {lv' : Value} {p : Pt} (h : Inv W wr s k n c lv mv σ ps) (hk : Kept (fun q => lv.ownBlock = some q) wr w2) (ho : w2.ownsRow W.heap.size 37 33 lv' (ps ++ [p]).length (flat (ps ++ [p]))) (hw : ∀ g, lv'.ownBlock = some g → lv.ownBlock = some g ∨ wr.heap.size ≤ g) (hp : p.Ok wr) (hpl : p.xs ≠ [] → ∀ g, p.bv.ownBlock = some g → g < W.heap.size) (hh : frontOf k p.xs = p.d ∧ ∃ e, look σ.es p.d = some e ∧ e.xs = p.xs) : Inv W w2 s k n (c + 1) lv' mv σ (ps ++ [p]) := by
  have hst : Stor w2 s mv σ := h.st.kept3 hk (fun e => h.st.no37 h.own s e (.inl rfl)) (fun r hr e => h.st.no37 h.own r e (.inr hr)) (fun e he h0 g hg e2 => h.dj g e2 e he h0 hg)
  have stay : ∀ q : Pt, q.Ok wr → (q.xs ≠ [] → ∀ g, q.bv.ownBlock = some g → g < W.heap.size) → q.Ok w2 := fun q hq hl => ⟨hq.len, hq.bin.kept2 hk (fun h0 g hg e2 => by have := hl h0 g hg; have := (h.own.lt g e2).1; omega), hq.rng, hq.short⟩
  refine ⟨hst, h.sane, h.mvf, ho, fun q hq => ?_, by rw [List.length_append]; have := h.few; simp; omega, fun q hq => ?_, h.kp.step hk (fun i hi e => by have := (h.own.lt i e).1; omega), h.sf, fun g hg e he h0 e1 => ?_, fun q hq => ?_⟩
  · rcases List.mem_append.1 hq with hq | hq
    · exact stay q (h.ok q hq) (h.pl q hq)
    · rw [List.mem_singleton.1 hq]; exact stay p hp hpl
  · rcases List.mem_append.1 hq with hq | hq
    · exact h.holds q hq
    · rw [List.mem_singleton.1 hq]; exact hh
  · rcases hw g hg with h1 | h1
    · exact h.dj g h1 e he h0 e1
    · have := (h.st.blob e he).1.blt h0 g e1
      omega
  · rcases List.mem_append.1 hq with hq | hq
    · exact h.pl q hq
    · rw [List.mem_singleton.1 hq]; exact hpl
def z33 : Array Value := #[.int .u8 0, .int .u8 0, .int .u8 0, .int .u8 0, .int .u8 0, .int .u8 0, .int .u8 0, .int .u8 0, .int .u8 0, .int .u8 0, .int .u8 0, .int .u8 0, .int .u8 0, .int .u8 0, .int .u8 0, .int .u8 0, .int .u8 0, .int .u8 0, .int .u8 0, .int .u8 0, .int .u8 0, .int .u8 0, .int .u8 0, .int .u8 0, .int .u8 0, .int .u8 0, .int .u8 0, .int .u8 0, .int .u8 0, .int .u8 0, .int .u8 0, .int .u8 0, .slice none 0 0]
theorem built_put (d : List Int) (hd : d.length = 32) (ao : Option Addr) (n c : Nat) (xs : List Int) : Tryd.prog.built 37 [(0, .agg (d.map (Value.int .u8)).toArray), (1, .slice ao n c)] = some (Pt.cells ⟨d, .slice ao n c, xs⟩).toArray := by
  have hb : ∀ parts, Tryd.prog.built 37 parts = Instr.fill (#[(0, 32), (32, 1)][·]?) z33 parts := fun parts => by kernel_rfl
  have hz : z33.size = 33 := rfl
  have hz32 : z33[32]? = some (Value.slice none 0 0) := rfl
  have hA : ((d.map (Value.int .u8)).zipIdx.foldl (fun a x => a.setIfInBounds x.2 x.1) z33) = (d.map (Value.int .u8) ++ [Value.slice none 0 0]).toArray := by
    apply Array.ext_getElem?
    intro i
    rw [fold_get _ 0 _ (by simp [hd, hz]) i]
    by_cases h : 0 ≤ i ∧ i < 0 + (d.map (Value.int .u8)).length
    · rw [if_pos h, List.getElem?_toArray, List.getElem?_append_left (by omega)]
      rfl
    · rw [if_neg h]
      simp [hd] at h
      by_cases e : i = 32
      · subst e
        rw [hz32]
        simp [hd]
      · rw [Array.getElem?_eq_none (by omega), Array.getElem?_eq_none (by simp [hd]; omega)]
  have hset : (d.map (Value.int .u8) ++ [Value.slice none 0 0]).set 32 (.slice ao n c) = d.map (Value.int .u8) ++ [.slice ao n c] := by
    rw [List.set_append_right _ _ (by simp [hd])]
    simp [hd]
  rw [hb]
  simp [Instr.fill, Value.cells, hd, hz, hA, hset, Pt.cells]
/-- A pair of a digest and a slice is built. -/
theorem wpList_bput {ops : Array Oper} {rest : List Oper} {o : Oper} {a : Act} {w : World} {Q : Exit → Act → World → Prop} (hg : o.guard = none) (x y : Operand) (ho : o.op = .build 37 #[(0, x), (1, y)]) (d : List Int) (ao : Option Addr) (n c : Nat) (hx : a.eval x = .agg (d.map (Value.int .u8)).toArray) (hy : a.eval y = .slice ao n c) (hd : d.length = 32) (xs : List Int)
    (h : wpList Tryd.prog ops Q rest (a.put o.dst (.agg (Pt.cells ⟨d, .slice ao n c, xs⟩).toArray)) w) : wpList Tryd.prog ops Q (o :: rest) a w := by
  have hb := built_put d hd ao n c xs
  have e : (#[(0, x), (1, y)].map fun (i, z) => (i, a.eval z)).toList = [(0, .agg (d.map (Value.int .u8)).toArray), (1, .slice ao n c)] := by rw [← hx, ← hy]; simp
  refine wpList_build hg 37 _ ho (by rw [e, hb]; rfl) ?_
  rw [e, hb]
  exact h
end Go.Proofs.YtjdbmjkidljhpaaDoor

namespace Go.Proofs.YtjdbmjkidljhpaaDoor
open Go.RowKit
set_option linter.unusedVariables false
set_option linter.unusedSimpArgs false
set_option maxRecDepth 100000

theorem TIs.stays {w w' : World} {v : Value} {ts : List Stp} (h : TIs w v ts) (hk : Kept (fun _ => False) w w') : TIs w' v ts := by
  obtain ⟨ao, cap, rfl, hl, h⟩ := h
  refine ⟨ao, cap, rfl, hl, fun i t ht => ?_⟩
  obtain ⟨h1, g, o, h2, h3⟩ := h i t ht
  exact ⟨⟨h1.bb.kept2 hk (fun _ _ _ f => f), h1.br, h1.cb.kept2 hk (fun _ _ _ f => f), h1.cr, h1.dl, h1.dr, h1.bl, h1.cl⟩, g, o, h2, fun j u hj => hk.cell (h3 j u hj) (fun f => f)⟩
theorem Stp.clen {t : Stp} (h : t.d.length = 32) : t.cells.length = 37 := by simp [Stp.cells, h]
theorem own_row {W wr w : World} {s k n c : Nat} {lv mv : Value} {σ : Sg} {ps : List Pt} {c10 old : Array Value} (h : Inv W wr s k n c lv mv σ ps) (hk : Kept (fun _ => False) wr w) (h10 : w.heap[wr.heap.size]? = some (.cells c10 30 (0, 0))) (h11 : w.heap[wr.heap.size + 1]? = some (.cells old 28 (0, 0))) (cs : Array Value) :
    (w.setRow (wr.heap.size + 1) cs).heap[wr.heap.size]? = some (.cells c10 30 (0, 0)) ∧ (w.setRow (wr.heap.size + 1) cs).heap[wr.heap.size + 1]? = some (.cells cs 28 (0, 0)) ∧ Inv W (w.setRow (wr.heap.size + 1) cs) s k n c lv mv σ ps :=
  ⟨(setRow_other _ _ _ _ (by omega)).trans h10, setRow_heap _ _ _ _ _ _ h11, h.quiet (hk.step (T := fun q => q = wr.heap.size + 1) ⟨rfl, rfl, rfl, by simp, fun i hi hn => setRow_other _ _ _ _ hn⟩ (fun i hi e => by omega))⟩
theorem info30 : (Tryd.prog.info? 30).map (·.size) = some 37 := by kernel_rfl
theorem Stp.one {w : World} {t : Stp} (h : t.Ok w) : t.cells.toArray.all (·.oneCell') = true := by
  apply all_oneCell_toArray
  intro v hv
  unfold Stp.cells at hv
  rcases List.mem_cons.1 hv with rfl | hv
  · rfl
  rcases List.mem_cons.1 hv with rfl | hv
  · exact h.bb.one
  rcases List.mem_cons.1 hv with rfl | hv
  · exact h.cb.one
  rcases List.mem_append.1 hv with hv | hv
  · obtain ⟨x, _, rfl⟩ := List.mem_map.1 hv
    rfl
  · rcases List.mem_cons.1 hv with rfl | hv
    · rfl
    · rw [List.mem_singleton.1 hv]
      rfl
/-- The step's cells, in a block of their own. -/
theorem Stp.at {w : World} {t : Stp} {b : Nat} (h : t.d.length = 32) (hb : w.heap[b]? = some (.cells t.cells.toArray 30 (0, 0))) :
    w.cell? ⟨b, 0, none⟩ = some (.int .i64 t.kd) ∧ w.cell? ⟨b, 1, none⟩ = some t.bv ∧ w.cell? ⟨b, 2, none⟩ = some t.cv ∧ w.rangeAt b 3 (t.d.map (Value.int .u8)) ∧ w.cell? ⟨b, 35, none⟩ = some (.bool t.own) ∧ w.cell? ⟨b, 36, none⟩ = some (.int .i64 t.n) := by
  have hc : ∀ o, w.cell? ⟨b, o, none⟩ = t.cells[o]? := fun o => by rw [cell_block _ _ _ _ _ _ hb]; simp
  refine ⟨hc 0, hc 1, hc 2, fun j u hj => ?_, ?_, ?_⟩
  · have hlt := (List.getElem?_eq_some_iff.1 hj).1
    rw [hc, Nat.add_comm]
    show (t.d.map (Value.int .u8) ++ [.bool t.own, .int .i64 t.n])[j]? = some u
    rw [List.getElem?_append_left hlt]
    exact hj
  · rw [hc]
    show (t.d.map (Value.int .u8) ++ [.bool t.own, .int .i64 t.n])[32]? = _
    rw [List.getElem?_append_right (by simp [h])]
    simp [h]
  · rw [hc]
    show (t.d.map (Value.int .u8) ++ [.bool t.own, .int .i64 t.n])[33]? = _
    rw [List.getElem?_append_right (by simp [h])]
    simp [h]
theorem fresh_full (x y : Int) (w : World) (h0 : -9223372036854775808 ≤ x) (h1 : x ≤ 9223372036854775807) (h2 : -9223372036854775808 ≤ y) (h3 : y ≤ 9223372036854775807) : Calls Tryd.prog 7 #[.int .i64 x, .int .i64 y] w fun e w' => e = .returned (.pointer (some ⟨w.heap.size, 0, none⟩)) ∧ w' = w.alloc (.cells ((Sg.new (1 + x % 32) (y % 67108865)).cells (.map none)) 63) := by
  have HR1 := hid_of (fun W => round_any x 32 W h0 h1 (by decide) (by decide))
  have HR2 := hid_of (fun W => round_any y 67108865 W h2 h3 (by decide) (by decide))
  have b1 := Int.emod_nonneg x (show (32 : Int) ≠ 0 by decide)
  have b2 := Int.emod_lt_of_pos x (show (0 : Int) < 32 by decide)
  have b3 := Int.emod_nonneg y (show (67108865 : Int) ≠ 0 by decide)
  have b4 := Int.emod_lt_of_pos y (show (0 : Int) < 67108865 by decide)
  have HN := hid_of (fun W => new_store (1 + x % 32) (y % 67108865) W (by omega) (by omega) b3 (by omega))
  have hwr : IntKind.i64.wrap (1 + x % 32) = 1 + x % 32 := by rw [IntKind.wrap_i64]; omega
  generalize x % 32 = z at *
  generalize y % 67108865 = cp at *
  go_enter Tryd.func7, Tryd.ntmps7
  go_wp2_with fail
  refine (HR1.out _).mono ?_
  rintro e w1 ⟨rfl, rfl⟩
  go_wp2_with fail
  refine (HR2.out _).mono ?_
  rintro e w2 ⟨rfl, rfl⟩
  go_wp2_with fail
  refine (HN.out _).mono ?_
  rintro e w3 ⟨rfl, rfl⟩
  go_wp2
  go_ret
  exact ⟨rfl, rfl⟩
end Go.Proofs.YtjdbmjkidljhpaaDoor

namespace Go.Proofs.YtjdbmjkidljhpaaDoor
open Go.RowKit Go.Shelf
attribute [local go_sem] Oper.semAt_some
set_option linter.unusedVariables false
set_option linter.unusedSimpArgs false
set_option maxRecDepth 100000

section
variable {F : Fence} {n : Nat} {ops : Array Oper} {rest : List Oper} {o : Oper} {a : Act} {w : World} {Q : Exit → Act → World → Prop}
theorem inList_store_row (hgd : o.guard = none) (ty : TypeId) (x y : Operand) (ho : o.op = .store ty x y) (g : Nat) (cells : Array Value) (hx : a.eval x = .pointer (some ⟨g, 0, none⟩)) (hy : a.eval y = .agg cells) (t : TypeId) (old : Array Value) (hg : w.heap[g]? = some (.cells old t (0, 0))) (hi : (Tryd.prog.info? ty).map (·.size) = some cells.size) (hold : old.size = cells.size) (h1 : cells.all (·.oneCell') = true)
    (h : wpListIn F n Tryd.prog ops Q rest (a.put o.dst undef) (w.setRow g cells)) : wpListIn F n Tryd.prog ops Q (o :: rest) a w := by
  refine wpListIn_plain hgd fun K hK => ?_
  unfold Oper.wpIn
  refine ⟨?_, ?_⟩
  · simp [Oper.about, ho]
  · rw [Oper.semAt_plain F _ _ (by rw [ho]; intro c hc; cases hc)]
    simp only [execOp, ho, hx, hy, Instr.storeAt, Instr.sureAddr, Sem.run_bind, Sem.run_pure, Result.andThen_ok, run_storeVar_row w g t ty old cells hg hi hold h1]
    exact hK _ _ h
theorem inList_load28 (hgd : o.guard = none) (x : Operand) (ho : o.op = .load 28 x) (g : Nat) (hx : a.eval x = .pointer (some ⟨g, 0, none⟩)) (t : TypeId) (cs : Array Value) (fr : Nat × Nat) (hg : w.heap[g]? = some (.cells cs t fr)) (hi : (Tryd.prog.info? 28).map (·.size) = some cs.size)
    (h : wpListIn F n Tryd.prog ops Q rest (a.put o.dst (.agg cs)) w) : wpListIn F n Tryd.prog ops Q (o :: rest) a w := by
  refine wpListIn_plain hgd fun K hK => ?_
  unfold Oper.wpIn
  refine ⟨?_, ?_⟩
  · simp [Oper.about, ho]
  · rw [Oper.semAt_plain F _ _ (by rw [ho]; intro c hc; cases hc)]
    simp only [execOp, ho, hx, Instr.loadAt, Instr.sureAddr, Sem.run_bind, Sem.run_pure, Result.andThen_ok, run_loadVar_row w g t 28 cs fr _ hg Tryd.underlying28 rfl hi]
    exact hK _ _ h
end
theorem perm_nodup {α : Type} : ∀ {l m : List α}, l.Nodup → m.Nodup → (∀ x, x ∈ l ↔ x ∈ m) → l.Perm m
  | [], m, _, _, h => by
    cases m with
    | nil => exact List.Perm.nil
    | cons y m => exact absurd ((h y).2 (List.mem_cons_self ..)) (by simp)
  | x :: l, m, hl, hm, h => by
    obtain ⟨s, t, rfl⟩ := List.append_of_mem ((h x).1 (List.mem_cons_self ..))
    have hl' := List.nodup_cons.1 hl
    have hm' : (x :: (s ++ t)).Nodup := (List.perm_middle.nodup_iff).1 hm
    have hm2 := List.nodup_cons.1 hm'
    have ih : l.Perm (s ++ t) := perm_nodup hl'.2 hm2.2 (fun y => by
      have hy := h y
      constructor
      · intro hyl
        have hne : y ≠ x := fun e => hl'.1 (e ▸ hyl)
        have := hy.1 (List.mem_cons_of_mem _ hyl)
        rcases List.mem_append.1 this with h1 | h1
        · exact List.mem_append.2 (.inl h1)
        · rcases List.mem_cons.1 h1 with h1 | h1
          · exact absurd h1 hne
          · exact List.mem_append.2 (.inr h1)
      · intro hyst
        have hne : y ≠ x := fun e => hm2.1 (e ▸ hyst)
        have : y ∈ s ++ x :: t := by
          rcases List.mem_append.1 hyst with h1 | h1
          · exact List.mem_append.2 (.inl h1)
          · exact List.mem_append.2 (.inr (List.mem_cons_of_mem _ h1))
        rcases List.mem_cons.1 (hy.2 this) with h1 | h1
        · exact absurd h1 hne
        · exact h1)
    exact (List.Perm.cons x ih).trans List.perm_middle.symm
theorem nodup_of_map {α β : Type} (f : α → β) : ∀ {l : List α}, (l.map f).Nodup → l.Nodup
  | [], _ => List.nodup_nil
  | x :: l, h => by
    rw [List.map_cons, List.nodup_cons] at h
    exact List.nodup_cons.2 ⟨fun hx => h.1 (List.mem_map.2 ⟨x, hx, rfl⟩), nodup_of_map f h.2⟩
/-- A digest. -/
abbrev Dg := { d : List Int // d.length = 32 ∧ ∀ x ∈ d, 0 ≤ x ∧ x < 256 }
/-- Entries of a map. -/
abbrev Em (es : List En) := { e : En // e ∈ es }
def tk {es : List En} (hl : ∀ e ∈ es, e.k.length = 32 ∧ ∀ x ∈ e.k, 0 ≤ x ∧ x < 256) (x : Em es) : Dg := ⟨x.1.k, hl x.1 x.2⟩
theorem born_inj : ∀ {es : List En}, (es.map En.born).Nodup → ∀ {x y : En}, x ∈ es → y ∈ es → x.born = y.born → x = y
  | [], _, x, y, hx, _, _ => by cases hx
  | a :: es, h, x, y, hx, hy, e => by
    rw [List.map_cons, List.nodup_cons] at h
    rcases List.mem_cons.1 hx with h1 | h1
    · rcases List.mem_cons.1 hy with h2 | h2
      · rw [h1, h2]
      · exact absurd (show a.born ∈ es.map En.born by rw [← h1, e]; exact List.mem_map.2 ⟨y, h2, rfl⟩) h.1
    · rcases List.mem_cons.1 hy with h2 | h2
      · exact absurd (show a.born ∈ es.map En.born by rw [← h2, ← e]; exact List.mem_map.2 ⟨x, h1, rfl⟩) h.1
      · exact born_inj h.2 h1 h2 e
theorem ents_borns (es : List En) : ((es.map En.ent).toArray.toList.map (·.born)) = es.map En.born := by
  simp only [List.map_map]
  rfl
/-- All have come: those that came are the entries, in another order. -/
theorem all_come {es : List En} (hnd : (es.map En.born).Nodup) (hl : ∀ e ∈ es, e.k.length = 32 ∧ ∀ x ∈ e.k, 0 ≤ x ∧ x < 256) (ss : List (Em es)) (seen : Array Nat) (hs : seen.toList = ss.map (·.1.born)) (hn : (ss.map (·.1.born)).Nodup) (h0 : (leftOf (es.map En.ent).toArray seen).size = 0) : (ss.map (·.1)).Perm es := by
  refine perm_nodup ?_ ?_ (fun x => ⟨fun h => ?_, fun h => ?_⟩)
  · refine nodup_of_map En.born ?_
    rw [List.map_map]
    exact hn
  · exact nodup_of_map En.born hnd
  · obtain ⟨y, _, rfl⟩ := List.mem_map.1 h
    exact y.2
  · have h1 := all_seen _ seen h0 (En.ent x) (by simp; exact ⟨x, h, rfl⟩)
    have h2 : x.born ∈ seen.toList := by
      have := Array.contains_iff_mem.1 h1
      simpa [En.ent] using this
    rw [hs] at h2
    obtain ⟨y, hy, e⟩ := List.mem_map.1 h2
    have : y.1 = x := born_inj hnd y.2 h e
    exact List.mem_map.2 ⟨y, hy, this⟩

set_option maxHeartbeats 4000000 in
theorem keys_full (n : Nat) (hn : 1 ≤ n) (Bn r clock : Nat) (es : List En) (hl : ∀ e ∈ es, e.k.length = 32 ∧ ∀ x ∈ e.k, 0 ≤ x ∧ x < 256) (hb : ∀ b ∈ es.map En.born, b < clock) (hnd : (es.map En.born).Nodup) (w : World) (hBn : Bn < w.heap.size) (hrl : r < w.heap.size) (hc : w.cell? ⟨Bn, 0, none⟩ = some (.map (some r))) (hr : w.heap[r]? = some (.map (es.map En.ent).toArray clock)) :
    SeqStopsK Fence.wide n Tryd.prog 62 #[.pointer (some ⟨Bn, 0, none⟩)] (fun x : Dg => #[dv x.1]) KeepsWalks (fun ys => (ys.map (·.1)).Perm (es.map En.k)) (fun _ => True) es.length w := fun l J Jx W hW hJ hJx hY h0 => by
  have hc' : W.cell? ⟨Bn, 0, none⟩ = some (.map (some r)) := (hW.cell (p := ⟨Bn, 0, none⟩) hBn).trans hc
  have hr' : W.heap[r]? = some (.map (es.map En.ent).toArray clock) := (hW.block r hrl).trans hr
  have hrW : r < W.heap.size := heap_lt hr'
  have q1 : (Instr.range 59 (.map (some r))).run Tryd.prog W = .ok (.pointer (some ⟨W.heap.size, 0, none⟩)) (W.alloc (.mapIter (some r) clock #[] clock)) := run_range_map W 59 28 65 r _ clock Tryd.underlying59 hr'
  have H0 : Hid (J [] (W.alloc (.mapIter (some r) clock #[] clock)) ∧ (W.alloc (.mapIter (some r) clock #[] clock)).heap[r]? = some (.map (es.map En.ent).toArray clock) ∧ (W.alloc (.mapIter (some r) clock #[] clock)).heap[W.heap.size]? = some (.mapIter (some r) clock #[] clock)) :=
    ⟨hJ [] W _ none h0 (((Kept.refl (fun _ => False) W).alloc _).grow) (fun r e => by cases e), (((Kept.refl (fun _ => False) W).alloc _).block r hrW (fun f => f)).trans hr', alloc_new _ _ rfl⟩
  have HJ := hid_of hJ
  have HY := hid_of hY
  have HND := hid_of hnd
  have HL := hid_of hl
  have HB : Hid (∀ x ∈ ((es.map En.ent).toArray).toList, x.born < clock) := fun x hx => by
    obtain ⟨e, he, rfl⟩ := List.mem_map.1 (show x ∈ es.map En.ent by simpa using hx)
    exact hb _ (List.mem_map.2 ⟨e, he, rfl⟩)
  clear hW hJ hJx hY h0 hc hr hr' hb
  refine callsIn_of_wp Tryd.func62 rfl trivial ?_ rfl
  simp only [Tryd.ntmps62, List.size_toArray, List.length_cons, List.length_nil, Nat.reduceAdd, Nat.reduceSub, Array.replicate_succ, Array.replicate_zero, List.push_toArray, List.append_toArray, List.nil_append, List.cons_append]
  gi_wp2
  clear q1
  generalize W.alloc (.mapIter (some r) clock #[] clock) = W1 at *
  gi_loopw [3] (fun _ wr => ∃ (ss : List (Em es)) (seen : Array Nat) (c0 : Nat), wr.heap[W.heap.size]? = some (.mapIter (some r) clock seen c0) ∧ clock ≤ c0 ∧ wr.heap[r]? = some (.map (es.map En.ent).toArray clock) ∧ seen.toList = ss.map (·.1.born) ∧ (ss.map (·.1.born)).Nodup ∧ ss.length + (leftOf (es.map En.ent).toArray seen).size ≤ es.length ∧ J (ss.map (tk HL.out)) wr) (fun _ wr => wr.rangeLeft r W.heap.size)
  case atStart =>
    refine ⟨[], #[], clock, H0.out.2.2, Nat.le_refl _, H0.out.2.1, rfl, List.nodup_nil, ?_, H0.out.1⟩
    have := Array.size_filter_le (xs := (es.map En.ent).toArray) (p := fun e => !(#[] : Array Nat).contains e.born)
    simp [leftOf] at this ⊢
    exact this
  case round =>
    clear H0
    obtain ⟨ss, seen, c0, hit, hc0, hmap, hseen, hsn, hcnt, hj⟩ := hrel
    have HS := hid_of hseen
    have HSN := hid_of hsn
    have HJ1 := hid_of hj
    have HIT := hid_of hit
    have HMP := hid_of hmap
    clear hseen hsn hj
    rcases run_next_at (P := Tryd.prog) wr 0 W.heap.size r clock c0 seen _ clock hit hmap HB.out hc0 with ⟨hz, hrun⟩ | ⟨e', he', w1, hw1, hrun⟩
    · have HZ := hid_of hz
      clear hit hmap hz
      gi_wp2
      go_end0
      exact ⟨⟨_, rfl⟩, .inl ⟨ss.map (tk HL.out), by
        have := (all_come HND.out HL.out ss seen HS.out HSN.out HZ.out).map En.k
        rw [List.map_map] at this ⊢
        exact this, HJ1.out⟩⟩
    · obtain ⟨hm1, hm2⟩ := mem_left he'
      obtain ⟨e, he, rfl⟩ := List.mem_map.1 (show e' ∈ es.map En.ent by simpa using hm1)
      have hsh := left_shrinks _ seen _ he'
      have hpos : 0 < (leftOf (es.map En.ent).toArray seen).size := by
        have := List.length_pos_of_mem he'
        simpa using this
      have hw1h : w1.heap = wr.heap := by rcases hw1 with rfl | rfl <;> rfl
      have hw1o : w1.os = wr.os ∧ w1.tape = wr.tape ∧ w1.output = wr.output := by rcases hw1 with rfl | rfl <;> exact ⟨rfl, rfl, rfl⟩
      have hRlt : W.heap.size < wr.heap.size := heap_lt hit
      obtain ⟨w2, hw2⟩ : ∃ w2, w2 = ChangeMaps.setBlock w1 W.heap.size (.mapIter (some r) clock (seen.push (En.ent e).born) clock) := ⟨_, rfl⟩
      rw [← hw2] at hrun
      have h2it : w2.heap[W.heap.size]? = some (.mapIter (some r) clock (seen.push (En.ent e).born) clock) := by
        rw [hw2]
        simp [ChangeMaps.setBlock, hw1h, hRlt]
      have h2ot : ∀ k, k ≠ W.heap.size → w2.heap[k]? = wr.heap[k]? := fun k hk => by
        rw [hw2]
        simp [ChangeMaps.setBlock, hw1h, Array.getElem?_setIfInBounds, Ne.symm hk]
      have h2sz : w2.heap.size = wr.heap.size := by
        rw [hw2]
        simp [ChangeMaps.setBlock, hw1h]
      have hg2 : wr.grownBy w2 (some W.heap.size) := ⟨by rw [hw2]; exact hw1o.1, by rw [hw2]; exact hw1o.2.1, by rw [hw2]; exact hw1o.2.2, by rw [h2sz]; exact Nat.le_refl _, fun k hk hne => h2ot k (fun e => hne (by rw [e]))⟩
      have h2mp : w2.heap[r]? = some (.map (es.map En.ent).toArray clock) := (h2ot r (by omega)).trans hmap
      have hen := run_entry_at (P := Tryd.prog) w2 W.heap.size r clock seen _ clock (En.ent e) h2it h2mp hm1 (by rw [ents_borns]; exact HND.out)
      have hj2 := HJ.out _ wr w2 (some W.heap.size) HJ1.out hg2 (fun q hq => by cases hq; exact ⟨Nat.le_refl _, _, HIT.out, rfl⟩)
      have hkl := (HL.out e he).1
      have hds := size28_of e.k hkl
      have honed := oneCells .u8 e.k
      have HOD : Hid (32 = (e.k.map (Value.int .u8)).toArray.size) := by show 32 = _; simp [hkl]
      have hk3 := (Kept.refl (fun _ => False) w2).alloc (.cells (e.k.map (Value.int .u8)).toArray 28)
      have hj3 := HJ.out _ w2 (w2.alloc (.cells (e.k.map (Value.int .u8)).toArray 28)) none hj2 hk3.grow (fun q hq => by cases hq)
      have H3 : Hid ((w2.alloc (.cells (e.k.map (Value.int .u8)).toArray 28)).heap[W.heap.size]? = some (.mapIter (some r) clock (seen.push (En.ent e).born) clock) ∧ (w2.alloc (.cells (e.k.map (Value.int .u8)).toArray 28)).heap[r]? = some (.map (es.map En.ent).toArray clock)) := ⟨(hk3.block _ (heap_lt h2it) (fun f => f)).trans h2it, (hk3.block _ (heap_lt h2mp) (fun f => f)).trans h2mp⟩
      have HB3 : Hid ((w2.alloc (.cells (e.k.map (Value.int .u8)).toArray 28)).heap[w2.heap.size]? = some (.cells (e.k.map (Value.int .u8)).toArray 28 (0, 0))) := alloc_new _ _ rfl
      obtain ⟨fn, tmps, assign, body, hy0, hR⟩ := HY.out (ss.map (tk HL.out)) (tk HL.out ⟨e, he⟩) _ hj3 (by rw [List.length_map]; omega)
      have hy : (Instr.yield l #[.agg (e.k.map (Value.int .u8)).toArray]).run Tryd.prog (w2.alloc (.cells (e.k.map (Value.int .u8)).toArray 28)) = .ok (.round l fn tmps assign body) (w2.alloc (.cells (e.k.map (Value.int .u8)).toArray 28)) := hy0
      have hkey : (En.ent e).key = .agg (e.k.map (Value.int .u8)).toArray := rfl
      rw [hkey] at hrun hen
      have HCN := hid_of hcnt
      have HSH := hid_of hsh
      have HM2 := hid_of hm2
      have HM1 := hid_of hpos
      clear hit hmap he' hm1 hm2 hsh hw1 hw1h hw1o hw2 h2ot hg2 h2mp h2it hj2 hj3 hk3 hy0 hcnt hpos h2sz hkl
      gi_wp2_with (first | (refine inList_store_row rfl 28 _ _ rfl w2.heap.size (e.k.map (Value.int .u8)).toArray rfl rfl 28 _ (alloc_new _ _ rfl) hds HOD.out honed ?_; rw [setRow_new _ _ _ _ rfl]) | (refine inList_load28 rfl _ rfl w2.heap.size rfl 28 (e.k.map (Value.int .u8)).toArray (0, 0) HB3.out hds ?_))
      refine hR.mono ?_
      rintro e5 W5 (⟨rfl, hJ5, hk5⟩ | ⟨rfl, hJx5⟩)
      · have H5 : Hid (W5.heap[W.heap.size]? = some (.mapIter (some r) clock (seen.push (En.ent e).born) clock) ∧ W5.heap[r]? = some (.map (es.map En.ent).toArray clock)) := ⟨hk5.same _ _ H3.out.1 rfl, hk5.same _ _ H3.out.2 rfl⟩
        have HJ5 := hid_of hJ5
        clear hk5 hJ5 hR hy hrun hen
        gi_wp2
        go_roundw
        case rel =>
          refine ⟨ss ++ [⟨e, he⟩], seen.push (En.ent e).born, clock, H5.out.1, Nat.le_refl _, H5.out.2, ?_, ?_, ?_, ?_⟩
          · rw [Array.toList_push, HS.out, List.map_append]
            rfl
          · rw [List.map_append]
            refine List.nodup_append.2 ⟨HSN.out, by simp, fun a ha b hb2 e3 => ?_⟩
            rw [List.map_cons, List.map_nil, List.mem_singleton] at hb2
            rw [← HS.out, e3, hb2] at ha
            have h7 : seen.contains e.born = true := Array.contains_iff_mem.2 (by simpa using ha)
            have h8 := HM2.out
            rw [show (En.ent e).born = e.born from rfl, h7] at h8
            cases h8
          · have h7 := HSH.out
            have h8 := HCN.out
            rw [List.length_append, List.length_singleton]
            omega
          · rw [List.map_append]
            exact HJ5.out
        case measure =>
          have h7 := HSH.out
          simp only [World.rangeLeft, H5.out.1, H5.out.2, HIT.out, HMP.out]
          exact h7
      · have HJ5 := hid_of hJx5
        clear hJx5 hR hy hrun hen
        gi_wp2
        refine bodyPost_ret (results_none rfl _ _ _) rfl ?_
        exact ⟨⟨_, rfl⟩, .inr ⟨_, trivial, HJ5.out⟩⟩
end Go.Proofs.YtjdbmjkidljhpaaDoor

namespace Go.Proofs.YtjdbmjkidljhpaaDoor
open Go.RowKit Go.Shelf
attribute [local go_sem] Oper.semAt_some
set_option linter.unusedVariables false
set_option linter.unusedSimpArgs false
set_option maxRecDepth 100000

/-- A map in memory, stamped. -/
structure MapAt (w : World) (r clock : Nat) (es : List En) : Prop where
  blk : w.heap[r]? = some (.map (es.map En.ent).toArray clock)
  len : ∀ e ∈ es, e.k.length = 32 ∧ ∀ x ∈ e.k, 0 ≤ x ∧ x < 256
  low : ∀ b ∈ es.map En.born, b < clock
  nd : (es.map En.born).Nodup
theorem MapAt.kept {S : Nat → Prop} {w w' : World} {r clock : Nat} {es : List En} (h : MapAt w r clock es) (hk : Kept S w w') (hs : ¬ S r) : MapAt w' r clock es := ⟨(hk.block r (heap_lt h.blk) hs).trans h.blk, h.len, h.low, h.nd⟩
/-- Digests in a row. -/
def flatD : List Dg → List Value
  | [] => []
  | x :: xs => x.1.map (Value.int .u8) ++ flatD xs
theorem flatD_snoc : ∀ (xs : List Dg) (x : Dg), flatD (xs ++ [x]) = flatD xs ++ x.1.map (Value.int .u8)
  | [], x => by simp [flatD]
  | y :: xs, x => by rw [List.cons_append, flatD, flatD, flatD_snoc xs x, List.append_assoc]
theorem info28 : (Tryd.prog.info? 28).map (fun i => (i.zero, i.size, i.bytes)) = some (some (.agg (#[.int .u8 0, .int .u8 0, .int .u8 0, .int .u8 0, .int .u8 0, .int .u8 0, .int .u8 0, .int .u8 0, .int .u8 0, .int .u8 0, .int .u8 0, .int .u8 0, .int .u8 0, .int .u8 0, .int .u8 0, .int .u8 0, .int .u8 0, .int .u8 0, .int .u8 0, .int .u8 0, .int .u8 0, .int .u8 0, .int .u8 0, .int .u8 0, .int .u8 0, .int .u8 0, .int .u8 0, .int .u8 0, .int .u8 0, .int .u8 0, .int .u8 0, .int .u8 0])), 32, 32) := by kernel_rfl
theorem info_part {i : Option TypeInfo} {z : Value} {s b : Nat} (h : i.map (fun i => (i.zero, i.size, i.bytes)) = some (some z, s, b)) : ∃ j, i = some j ∧ j.zero = some z ∧ j.size = s ∧ j.bytes = b := by
  cases i with
  | none => cases h
  | some j =>
    simp only [Option.map_some, Option.some.injEq, Prod.mk.injEq] at h
    exact ⟨j, rfl, h.1, h.2.1, h.2.2⟩
theorem foldD : ∀ (cs : List Value) (k : Nat) (init : Array Value), k + cs.length ≤ init.size → ∀ i, ((cs.zipIdx k).foldl (fun a x => a.setIfInBounds x.2 x.1) init)[i]? = if k ≤ i ∧ i < k + cs.length then cs[i - k]? else init[i]?
  | [], k, init, _, i => by
    rw [if_neg (by simp; try omega)]
    rfl
  | c :: cs, k, init, h, i => by
    rw [List.zipIdx_cons, List.foldl_cons, foldD cs (k + 1) _ (by simp at h ⊢; omega) i]
    simp only [List.length_cons]
    rw [Array.getElem?_setIfInBounds]
    by_cases e : k = i
    · subst e
      rw [if_neg (by omega), if_pos rfl, if_pos (by simp at h; omega), if_pos (by omega), Nat.sub_self]
      rfl
    · rw [if_neg e]
      by_cases e2 : k + 1 ≤ i ∧ i < k + 1 + cs.length
      · rw [if_pos e2, if_pos (by omega), show i - k = (i - (k + 1)) + 1 by omega]
        rfl
      · rw [if_neg e2, if_neg (by omega)]
theorem fillD (cs : List Value) (init : Array Value) (hl : cs.length = 32) (hi : init.size = 32) : Instr.fill (fun i => some (i * 32, 32)) init [(0, .agg cs.toArray)] = some cs.toArray := by
  have hf : (cs.zipIdx.foldl (fun a x => a.setIfInBounds x.2 x.1) init) = cs.toArray := by
    apply Array.ext_getElem?
    intro i
    rw [foldD cs 0 init (by omega) i]
    by_cases h : 0 ≤ i ∧ i < 0 + cs.length
    · rw [if_pos h]
      simp
    · rw [if_neg h, Array.getElem?_eq_none (by omega), Array.getElem?_eq_none (by simp; omega)]
  simp [Instr.fill, Value.cells, hl, hi, hf]
section
variable {F : Fence} {n : Nat} {ops : Array Oper} {rest : List Oper} {o : Oper} {a : Act} {w : World} {Q : Exit → Act → World → Prop}
theorem inList_build28 (hg : o.guard = none) (x : Operand) (ho : o.op = .buildSlice 89 1 #[(0, x)]) (cs : List Value) (hx : a.eval x = .agg cs.toArray) (hl : cs.length = 32)
    (h : wpListIn F n Tryd.prog ops Q rest (a.put o.dst (.slice (some ⟨w.heap.size, 0, none⟩) 1 1)) (w.alloc (.cells cs.toArray 28))) : wpListIn F n Tryd.prog ops Q (o :: rest) a w := by
  obtain ⟨i0, hi, hz0, hz1, hz2⟩ := info_part info28
  have e : (#[(0, x)].map fun (i, y) => (i, a.eval y)).toList = [(0, .agg cs.toArray)] := by rw [← hx]; simp
  have hr := run_buildSlice (P := Tryd.prog) w 89 28 1 (#[(0, x)].map fun (i, y) => (i, a.eval y)) cs.toArray i0 _ Tryd.underlying89 hi hz0 (by rw [hz1]; decide) (by rw [hz1]; decide) (by rw [e, hz1]; exact fillD cs _ hl (by simp))
  refine wpListIn_plain hg fun K hK => ?_
  unfold Oper.wpIn
  refine ⟨?_, ?_⟩
  · simp [Oper.about, ho]
  · rw [Oper.semAt_plain F _ _ (by rw [ho]; intro c hc; cases hc)]
    simp only [execOp, ho, Sem.run_bind, hr, Result.andThen_ok]
    exact hK _ _ h
end
theorem owns_stayD {B : Nat} {A C : World} {rw : Option Nat} {base e sz n : Nat} {v : Value} {xs : List Value} (ho : A.ownsRow base e sz v n xs) (hg : A.grownBy C rw) (hr : ∀ r, rw = some r → B ≤ r ∧ ∃ o : Obj, A.heap[r]? = some o ∧ o.isCells = false) : C.ownsRow base e sz v n xs := by
  refine ho.kept hg ?_
  rcases ho.2 with ⟨hv, _⟩ | ⟨g, cap, cur, hv, _, hb, _⟩
  · left; rw [hv]; rfl
  · right
    intro e1
    rw [hv] at e1
    obtain ⟨_, o, h1, h2⟩ := hr g e1.symm
    rw [hb] at h1
    cases h1
    cases h2
theorem own_slice {w : World} {b e s n : Nat} {v : Value} {xs : List Value} (h : w.ownsRow b e s v (n + 1) xs) : ∃ g c, v = .slice (some ⟨g, 0, none⟩) (n + 1) c := by
  rcases h.2 with ⟨_, h1⟩ | ⟨g, cap, cur, h1, _⟩
  · omega
  · exact ⟨g, cap, h1⟩
/-- A range over a function whose variable lies in a block of its own. -/
theorem rangeD {F : Fence} {n : Nat} {α : Type} {g : Operand} {ps : Array Tmp} {assign body : Code} {Q : Exit → Act → World → Prop} {a : Act} {w : World}
    (hro : F.round = none) (h1 : 1 ≤ n) {gf : Nat} {lb : Array Value} (hg : a.eval g = .func (.func gf) #[] lb) (hFg : F.fn gf) (eg : ∀ args w, (callFunc gf args).run Tryd.prog w = .ok (.enter gf args) w)
    {encs : α → Array Value} {S Sp : List α → Prop} {N : Nat} {w0 : World} (hseq : SeqStopsK F (n - 1) Tryd.prog gf lb encs KeepsWalks S Sp N w0) (hb0 : Below w0.heap.size w0 w) (hps : ∀ x, (encs x).size = ps.size)
    (I : List α → World → Prop) (Ix : Code → List α → World → Prop) (hI : OwnFrom w.heap.size I) (hIx : ∀ c, OwnFrom w.heap.size (Ix c)) (h0 : I [] w) (hsz : ∀ pre W, I pre W → w.heap.size ≤ W.heap.size) (cs : α → Array Value) (tm : α → Nat → Array Value)
    (hassign : ∀ (l : Nat) (x : α) (W : World) (K : Act → World → Prop), K { tmps := tm x W.heap.size, defers := [] } (W.alloc (.cells (cs x) 28)) →
      assign.wpIn (F.inRound l) (n - 1 - 1) Tryd.prog (Exit.then K (fun _ _ _ => False)) { tmps := (ps.zip (encs x)).foldl (fun t (p, v) => t.setIfInBounds p v) a.tmps, defers := [] } W)
    (hbody : ∀ (l : Nat) (pre : List α) (x : α) (B : Nat) (W : World), w.heap.size ≤ l → (∃ r, W.heap[l]? = some (.loop r)) → I pre W → w.heap.size ≤ B → W.heap[B]? = some (.cells (cs x) 28 (0, 0)) → pre.length < N → body.wpIn (F.inRound l) (n - 1 - 1) Tryd.prog (ownPostG w.heap.size KeepsWalks I Ix (pre ++ [x]) W) { tmps := tm x B, defers := [] } W)
    (hdone : ∀ (D : Nat) (xs : List α) (W : World), w.heap.size ≤ D → S xs → I xs W → W.heap[D]? = some (.deferred (some [])) → Q .normal { a with defers := { target := .collected D, args := #[] } :: a.defers } W)
    (hstop : ∀ (D : Nat) (c : Code) (pre : List α) (W : World), w.heap.size ≤ D → Sp pre → Ix c pre W → W.heap[D]? = some (.deferred (some [])) → c.wpIn F n Tryd.prog Q { a with defers := { target := .collected D, args := #[] } :: a.defers } W) :
    (Code.rangeFunc g ps assign body).wpIn F n Tryd.prog Q a w :=
  wpIn_rangeFunc_ownH hro h1 hg hFg eg hseq (fun h k => h.trans k) (fun W l o o' _ hl _ hw => KeepsWalks.putObj o' hl hw) hb0 hps I Ix hI hIx h0
    (fun x a' W => ∃ B, w.heap.size ≤ B ∧ a' = { tmps := tm x B, defers := [] } ∧ W.heap[B]? = some (.cells (cs x) 28 (0, 0)))
    (fun x a' _ W W' row h hg hr => by
      obtain ⟨B, hB, ha, hb⟩ := h
      refine ⟨B, hB, ha, (hg.block B (heap_lt hb) (fun e => ?_)).trans hb⟩
      obtain ⟨_, o, h1, h2⟩ := hr B e.symm
      rw [hb] at h1
      cases h1
      cases h2)
    (fun l pre x W K hi hK => hassign l x W K (hK _ _ ((KeepsOthers.alloc W _).from _) (KeepsWalks.alloc W _) (hI.alloc _ hi) ⟨W.heap.size, hsz pre W hi, rfl, alloc_new _ _ rfl⟩))
    (fun l pre x a' W hl hr hi ha hlt => by
      obtain ⟨B, hB, rfl, hb⟩ := ha
      exact hbody l pre x B W hl hr hi hB hb hlt) hdone hstop

set_option maxHeartbeats 4000000 in
theorem aseq_full (Bn r clock : Nat) (es : List En) (w : World) (hM : MapAt w r clock es) (hn : es.length ≤ 1000000000) (hBn : Bn < w.heap.size) (hc : w.cell? ⟨Bn, 0, none⟩ = some (.map (some r))) :
    Calls Tryd.prog 68 #[.slice none 0 0, .func (.func 62) #[] #[.pointer (some ⟨Bn, 0, none⟩)]] w fun e w' => ∃ v, ∃ ys : List Dg, e = .returned v ∧ (ys.map (·.1)).Perm (es.map En.k) ∧ w'.ownsRow w.heap.size 28 32 v ys.length (flatD ys) ∧ Kept (fun _ => False) w w' := by
  refine (callsIn_wide (n := 3)).1 ?_
  refine callsIn_of_wp_marks Tryd.func68 rfl trivial ?_ rfl
  simp only [Tryd.ntmps68, List.size_toArray, List.length_cons, List.length_nil, Nat.reduceAdd, Nat.reduceSub, Array.replicate_succ, Array.replicate_zero, List.push_toArray, List.append_toArray, List.nil_append, List.cons_append]
  gi_wp2
  have b0 := Boxed.new w 89 (.slice none 0 0)
  have hB0 := (Below.refl w.heap.size w).alloc (Nat.le_refl _) (.cells #[.slice none 0 0] 89)
  have hk0 : Kept (fun _ => False) w (w.alloc (.cells #[.slice none 0 0] 89)) := (Kept.refl _ w).alloc _
  have hcc : (w.alloc (.cells #[.slice none 0 0] 89)).cell? ⟨Bn, 0, none⟩ = some (.map (some r)) := hk0.cell hc (fun f => f)
  have hM0 := hM.kept hk0 (fun f => f)
  obtain ⟨W0, hW0⟩ : ∃ W0, w.alloc (.cells #[.slice none 0 0] 89) = W0 := ⟨_, rfl⟩
  have hsz : W0.heap.size = w.heap.size + 1 := by rw [← hW0]; simp
  rw [hW0] at b0 hB0 hcc hM0 ⊢
  clear hW0 hk0
  refine rangeD rfl (by omega) (gf := 62) (lb := #[.pointer (some ⟨Bn, 0, none⟩)]) rfl trivial (enters_of Tryd.func62 (by kernel_rfl) rfl)
    (keys_full 2 (by omega) Bn r clock es hM0.len hM0.low hM0.nd W0 (by omega) (heap_lt hM0.blk) hcc hM0.blk) (Below.refl _ _) (fun x => rfl)
    (fun pre W => ∃ v, (w.heap.size + 1 ≤ W.heap.size ∧ Boxed W w.heap.size 89 v) ∧ W.ownsRow w.heap.size 28 32 v pre.length (flatD pre) ∧ Below w.heap.size w W)
    (fun _ _ _ => False) ?hI ?hIx ?h0 ?hsz (fun x => (x.1.map (Value.int .u8)).toArray)
    (fun x B => #[.slice none 0 0, .func (.func 62) #[] #[.pointer (some ⟨Bn, 0, none⟩)], .pointer (some ⟨w.heap.size, 0, none⟩), undef, .slice none 0 0, .pointer (some ⟨B, 0, none⟩), .func (.func 62) #[] #[.pointer (some ⟨Bn, 0, none⟩)], .agg (x.1.map (Value.int .u8)).toArray, undef, undef, undef, undef, undef])
    ?assign ?body ?done ?stop
  case hI =>
    rintro pre A C rw ⟨v, ⟨hbs, hv⟩, ho, hB⟩ hg hr
    exact ⟨v, ⟨Nat.le_trans hbs hg.size, box_stay hv hg hr⟩, owns_stayD ho hg hr, hB.grown hg hB.size (fun k e => by have := (hr k e).1; omega)⟩
  case hIx => exact fun _ _ _ _ _ h _ _ => h
  case h0 => exact ⟨_, ⟨by omega, b0⟩, World.ownsRow_nil _ _ _ _, hB0⟩
  case hsz => rintro pre W ⟨v, ⟨h, _⟩, _⟩; omega
  case assign =>
    intro l x W K hK
    have hds := size28_of x.1 x.2.1
    have honed := oneCells .u8 x.1
    have HOD : Hid (32 = (x.1.map (Value.int .u8)).toArray.size) := by show 32 = _; simp [x.2.1]
    gi_wp2_with (refine inList_store_row rfl 28 _ _ rfl W.heap.size (x.1.map (Value.int .u8)).toArray rfl rfl 28 _ (alloc_new _ _ rfl) hds HOD.out honed ?_; rw [setRow_new _ _ _ _ rfl])
    exact hK
  case body =>
    rintro l pre x B W hl hlr ⟨v, ⟨hbs, hv⟩, ho, hB⟩ hBge hb hlt
    have hcv := hv.cell
    have hds := size28_of x.1 x.2.1
    have HX : Hid ((x.1.map (Value.int .u8)).length = 1 * 32) := by show _ = _; simp [x.2.1]
    obtain ⟨i0, hi, hz0, hz1, hz2⟩ := info_part info28
    have HO := hid_of ho
    have HV := hid_of hv
    have HB := hid_of hB
    have HBB := hid_of hb
    clear ho hv hB hb
    gi_wp2_with (first
      | (refine inList_load28 rfl _ rfl B rfl 28 _ (0, 0) HBB.out hds ?_)
      | (refine inList_build28 rfl _ rfl (x.1.map (Value.int .u8)) rfl HX.out ?_)
      | (refine wpListIn_append_own _ rfl _ _ 89 rfl w.heap.size 28 i0 _ 32 32 Tryd.underlying89 hi hz0 hz1 hz2 rfl (by decide) v pre.length (flatD pre) rfl (HO.out.alloc _) ⟨W.heap.size, 0, none⟩ 1 1 (x.1.map (Value.int .u8)) rfl HX.out (fun j u hj => by rw [Addr.add_mid, cell_block _ _ _ _ _ _ (alloc_new _ _ rfl), Nat.zero_add]; simpa using hj) (fun u hu => by obtain ⟨y, _, rfl⟩ := List.mem_map.1 hu; rfl) (by unfold maxLen; omega) (by omega) (by simp; omega) ?_; intro v' w' ho' hg' hv'; obtain ⟨g', c', rfl⟩ := own_slice ho'; have hap := HV.out.appended (by decide) HO.out (by omega) (Nat.le_refl _) ho' hg'; have hcx := hap.1.cell; have hfx := hap.1.frozen; have HAP := hid_of hap.2; clear hap ho' hg' hv'))
    refine ⟨HAP.out.2.2.1.from _, ⟨HAP.out.2.2.1.size, fun k o hk hw => HAP.out.2.2.1.same k o hk (Obj.not_cells_of_walk hw)⟩, _, ⟨Nat.le_trans hbs HAP.out.2.2.1.size, HAP.out.1⟩, ?_, HB.out.trans HAP.out.2.2.2⟩
    rw [flatD_snoc, List.length_append]
    exact HAP.out.2.1
  case done =>
    rintro D ys W hD hS ⟨v, ⟨hbs, hv⟩, ho, hB⟩ hK
    have hc := hv.cell
    have HB := hid_of hB
    have HK := hid_of hK
    have HO := hid_of ho
    clear hB hK ho
    gi_wp2
    refine ⟨by simp, .inl ⟨_, _, rfl, run_takeDeferred HK.out, ?_⟩⟩
    refine ⟨_, results_tmp rfl _ _ _, v, ys, rfl, hS, ownsRow_putObj HO.out _ HK.out rfl, ?_⟩
    have hk := HB.out
    refine ⟨hk.os, hk.tape, hk.output, ?_, fun k hkk _ => (World.putObj_heap_other (by omega)).trans (hk.block k hkk)⟩
    have := hk.size
    simpa [World.putObj] using this
  case stop =>
    rintro D c pre W _ _ h _
    exact h.elim
end Go.Proofs.YtjdbmjkidljhpaaDoor

namespace Go.Proofs.YtjdbmjkidljhpaaDoor
open Go.RowKit Go.Shelf
attribute [local go_sem] Oper.semAt_some
set_option linter.unusedVariables false
set_option linter.unusedSimpArgs false
set_option maxRecDepth 100000

section
variable {F : Fence} {n : Nat} {ops : Array Oper} {rest : List Oper} {o : Oper} {a : Act} {w : World} {Q : Exit → Act → World → Prop} {K : Act → World → Prop} {E : Prop}
theorem inList_mid28 (hgd : o.guard = none) (x : Operand) (ho : o.op = .load 28 x) (b f : Nat) (hx : a.eval x = .pointer (some ⟨b, f, none⟩)) (cs : List Value) (hc : w.rangeAt b f cs) (hi : (Tryd.prog.info? 28).map (·.size) = some cs.length)
    (h : wpListIn F n Tryd.prog ops Q rest (a.put o.dst (.agg cs.toArray)) w) : wpListIn F n Tryd.prog ops Q (o :: rest) a w := by
  refine wpListIn_plain hgd fun K hK => ?_
  unfold Oper.wpIn
  refine ⟨?_, ?_⟩
  · simp [Oper.about, ho]
  · rw [Oper.semAt_plain F _ _ (by rw [ho]; intro c hc; cases hc)]
    simp only [execOp, ho, hx, Instr.loadAt, Instr.sureAddr, Sem.run_bind, Sem.run_pure, Result.andThen_ok, run_loadVar_mid w b f 28 cs _ hc Tryd.underlying28 rfl hi]
    exact hK _ _ h
theorem stIn_load28 (hgd : o.guard = none) (x : Operand) (ho : o.op = .load 28 x) (g : Nat) (hx : a.eval x = .pointer (some ⟨g, 0, none⟩)) (t : TypeId) (cs : Array Value) (fr : Nat × Nat) (hg : w.heap[g]? = some (.cells cs t fr)) (hi : (Tryd.prog.info? 28).map (·.size) = some cs.size)
    (h : K (a.put o.dst (.agg cs)) w) : if Region.wanted o (yielded ops a.tmps) = true then Oper.wpIn F n Tryd.prog o a w K Q else E := by
  have hw : Region.wanted o (yielded ops a.tmps) = true := by simp [Region.wanted, hgd]
  rw [if_pos hw]
  unfold Oper.wpIn
  refine ⟨?_, ?_⟩
  · simp [Oper.about, ho]
  · rw [Oper.semAt_plain F _ _ (by rw [ho]; intro c hc; cases hc)]
    simp only [execOp, ho, hx, Instr.loadAt, Instr.sureAddr, Sem.run_bind, Sem.run_pure, Result.andThen_ok, run_loadVar_row w g t 28 cs fr _ hg Tryd.underlying28 rfl hi]
    exact h
end
set_option maxHeartbeats 2000000 in
theorem mclone_any (b clock : Nat) (es : Array MapEntry) (w : World) (hb : w.heap[b]? = some (.map es clock)) :
    Calls Tryd.prog 52 #[.map (some b)] w fun e w' => e = .returned (.map (some w.heap.size)) ∧ w' = w.alloc (.map es clock) := by
  have hq := fun w => run_eql_map_nil_sl (P := Tryd.prog) w 59 _ _ (some b) Tryd.underlying59
  go_enter Tryd.func52, Tryd.ntmps52
  go_wp2
  rw [run_callFunc_extern Tryd.func64 (by kernel_rfl) (by kernel_rfl) (by kernel_rfl) (e := Extern.MapsClone.clone) (by kernel_rfl), run_maps_clone_sl w 59 hb]
  simp only [Result.andThen]
  rw [Oper.upon_value]
  go_wp2
  rw [run_typeAssert_map_sl _ 59 20 _ _ _ Tryd.underlying59]
  simp only [Result.andThen]
  rw [Oper.upon_value]
  go_wp2
  go_ret
  exact ⟨rfl, rfl⟩

/-- Some blocks stay as they are. -/
structure KeepsB (Z : Nat → Prop) (A B : World) : Prop where
  size : A.heap.size ≤ B.heap.size
  same : ∀ k, Z k → k < A.heap.size → B.heap[k]? = A.heap[k]?
theorem KeepsB.refl (Z : Nat → Prop) (A : World) : KeepsB Z A A := ⟨Nat.le_refl _, fun _ _ _ => rfl⟩
theorem KeepsB.trans {Z : Nat → Prop} {A B C : World} (h : KeepsB Z A B) (k : KeepsB Z B C) : KeepsB Z A C := ⟨Nat.le_trans h.size k.size, fun i hi hl => (k.same i hi (Nat.lt_of_lt_of_le hl h.size)).trans (h.same i hi hl)⟩
theorem KeepsB.of_kept {Z : Nat → Prop} {A B : World} (h : Kept (fun _ => False) A B) : KeepsB Z A B := ⟨h.size, fun k _ hl => h.block k hl (fun f => f)⟩
theorem KeepsB.cell {Z : Nat → Prop} {A B : World} (h : KeepsB Z A B) {b i : Nat} {u : Value} (hz : Z b) (hc : A.cell? ⟨b, i, none⟩ = some u) : B.cell? ⟨b, i, none⟩ = some u := by
  obtain ⟨c, t, f, h1⟩ := cell_cells hc
  rw [← hc]
  exact World.cell?_of_block (a := ⟨b, i, none⟩) (h.same b hz (heap_lt h1))
/-- Digests in a row, and the map that they are looked up in. -/
structure RowAt (w : World) (B1 B2 r clock : Nat) (es : List En) (ds : List Dg) (ao : Option Addr) (cap : Nat) : Prop where
  b1 : w.cell? ⟨B1, 0, none⟩ = some (.slice ao ds.length cap)
  mp : ds ≠ [] → w.cell? ⟨B2, 0, none⟩ = some (.map (some r)) ∧ MapAt w r clock es
  len : ∀ e ∈ es, e.k.length = 32 ∧ ∀ x ∈ e.k, 0 ≤ x ∧ x < 256
  row : ∀ i d, ds[i]? = some d → ∃ g o, ao = some ⟨g, o, none⟩ ∧ w.rangeAt g (o + i * 32) (d.1.map (Value.int .u8))
  mem : ∀ d ∈ ds, d.1 ∈ es.map En.k
theorem RowAt.keep {Z : Nat → Prop} {A B : World} {B1 B2 r clock : Nat} {es : List En} {ds : List Dg} {ao : Option Addr} {cap : Nat} (h : RowAt A B1 B2 r clock es ds ao cap) (hk : KeepsB Z A B) (h1 : Z B1) (h2 : Z B2) (h3 : Z r) (h4 : ∀ g o, ao = some ⟨g, o, none⟩ → Z g) : RowAt B B1 B2 r clock es ds ao cap :=
  ⟨hk.cell h1 h.b1, fun h0 => ⟨hk.cell h2 (h.mp h0).1, (hk.same r h3 (heap_lt (h.mp h0).2.blk)).trans (h.mp h0).2.blk, (h.mp h0).2.len, (h.mp h0).2.low, (h.mp h0).2.nd⟩, h.len, fun i d hd => by
      obtain ⟨g, o, hg, hr⟩ := h.row i d hd
      exact ⟨g, o, hg, fun j u hj => hk.cell (h4 g o hg) (hr j u hj)⟩, h.mem⟩
theorem look_of_mem : ∀ (es : List En) (d : List Int), d ∈ es.map En.k → ∃ e, look es d = some e
  | [], d, h => by cases h
  | x :: es, d, h => by
    unfold look
    by_cases hk : d = x.k
    · exact ⟨x, by rw [if_pos hk]⟩
    · rw [if_neg hk]
      rw [List.map_cons, List.mem_cons] at h
      exact look_of_mem es d (h.resolve_left hk)

set_option maxHeartbeats 8000000 in
theorem row_stops (Z : Nat → Prop) (n : Nat) (hn : 1 ≤ n) (B1 B2 r clock : Nat) (es : List En) (ds : List Dg) (ao : Option Addr) (cap : Nat) (w : World) (hR : RowAt w B1 B2 r clock es ds ao cap) (z1 : Z B1) (z2 : Z B2) (z3 : Z r) (z4 : ∀ g o, ao = some ⟨g, o, none⟩ → Z g) (hZ : ∀ k, Z k → k < w.heap.size) (hdl : ds.length ≤ 1000000000) :
    SeqStopsK Fence.wide n Tryd.prog 53 #[.pointer (some ⟨B1, 0, none⟩), .pointer (some ⟨B2, 0, none⟩)] (fun x : Em es => #[dv x.1.k, x.1.bv]) (KeepsB Z) (fun ys => ys.map (·.1.k) = ds.map (·.1)) (fun _ => True) ds.length w := fun l J Jx W hW hJ hJx hY h0 => by
  have hRW : RowAt W B1 B2 r clock es ds ao cap := hR.keep (Z := fun k => k < w.heap.size) ⟨hW.size, fun k hk _ => hW.block k hk⟩ (hZ _ z1) (hZ _ z2) (hZ _ z3) (fun g o e => hZ _ (z4 g o e))
  have hJk : ∀ pre A B, J pre A → Kept (fun _ => False) A B → J pre B := fun pre A B h k => hJ pre A B none h k.grow (fun r e => by cases e)
  have HR := hid_of hRW
  have HJ := hid_of hJk
  have HY := hid_of hY
  have HZ : Hid (∀ A B, RowAt A B1 B2 r clock es ds ao cap → KeepsB Z A B → RowAt B B1 B2 r clock es ds ao cap) := fun A B h k => h.keep k z1 z2 z3 z4
  have H0 := hid_of h0
  have hb1 := hRW.b1
  clear hW hJ hJx hY h0 hR hRW hJk z1 z2 z3 z4 hZ
  refine callsIn_of_wp Tryd.func53 rfl trivial ?_ rfl
  simp only [Tryd.ntmps53, List.size_toArray, List.length_cons, List.length_nil, Nat.reduceAdd, Nat.reduceSub, Array.replicate_succ, Array.replicate_zero, List.push_toArray, List.append_toArray, List.nil_append, List.cons_append]
  gi_wp2
  gi_loopw [5, 8] (fun _ i wr => ∃ (j : Nat) (ss : List (Em es)), j ≤ ds.length ∧ i = .int .i64 j ∧ ss.map (·.1.k) = (ds.take j).map (·.1) ∧ RowAt wr B1 B2 r clock es ds ao cap ∧ J ss wr) (fun _ i _ => ds.length - (intOf i).toNat)
  case atStart => exact ⟨0, [], by omega, rfl, rfl, HR.out, H0.out⟩
  case round =>
    clear H0 HR
    obtain ⟨j, ss, hj, rfl, hss, hrow, hjs⟩ := hrel
    have HSS := hid_of hss
    have HRW := hid_of hrow
    have HJS := hid_of hjs
    clear hss hrow hjs
    by_cases hlt : j < ds.length
    · obtain ⟨d, hd⟩ : ∃ d, ds[j]? = some d := ⟨_, List.getElem?_eq_getElem hlt⟩
      obtain ⟨g, o, hg, hra⟩ := HRW.out.row j d hd
      obtain ⟨e, hle⟩ := look_of_mem es d.1 (HRW.out.mem d (List.mem_of_getElem? hd))
      obtain ⟨hem, hek⟩ := look_mem _ _ _ hle
      have hjI : (j : Int) < (ds.length : Int) := by omega
      subst hg
      have HRA := hid_of hra
      have HD := hid_of hd
      have hi28 : (Tryd.prog.info? 28).map (·.size) = some (d.1.map (Value.int .u8)).length := by rw [size28_of d.1 d.2.1]; simp
      have hds := size28_of d.1 d.2.1
      have honed := oneCells .u8 d.1
      have HOD : Hid (32 = (d.1.map (Value.int .u8)).toArray.size) := by show 32 = _; simp [d.2.1]
      have HK3 : Hid (Kept (fun _ => False) wr (wr.alloc (.cells (d.1.map (Value.int .u8)).toArray 28)).drew) := ((Kept.refl _ wr).alloc _).drew
      have HB5 : Hid ((wr.alloc (.cells (d.1.map (Value.int .u8)).toArray 28)).drew.heap[wr.heap.size]? = some (.cells (d.1.map (Value.int .u8)).toArray 28 (0, 0))) := alloc_new wr _ rfl
      have HR3 := hid_of (HZ.out _ _ HRW.out (KeepsB.of_kept HK3.out))
      have hne : ds ≠ [] := fun e => by rw [e] at hlt; simp at hlt
      have HM3 := hid_of (HR3.out.mp hne)
      have hb2 := HM3.out.1
      clear hne
      have hlook : (Instr.lookup 59 (.map (some r)) (.agg (d.1.map (Value.int .u8)).toArray) false).run Tryd.prog (wr.alloc (.cells (d.1.map (Value.int .u8)).toArray 28)).drew = .ok (.agg #[e.bv, .int .i64 e.st]) (wr.alloc (.cells (d.1.map (Value.int .u8)).toArray 28)).drew := by
        have := run_look (wr.alloc (.cells (d.1.map (Value.int .u8)).toArray 28)).drew r clock es HM3.out.2.blk (fun e he => (HM3.out.2.len e he).1) d.1 d.2.1 false
        unfold lookV at this
        rw [hle] at this
        exact this
      obtain ⟨fn, tmps, assign, body, hy0, hRn⟩ := HY.out ss ⟨e, hem⟩ _ (HJ.out _ _ _ HJS.out HK3.out) (by
        have := congrArg List.length HSS.out
        simp at this
        omega)
      have hy : (Instr.yield l #[.agg (d.1.map (Value.int .u8)).toArray, e.bv]).run Tryd.prog (wr.alloc (.cells (d.1.map (Value.int .u8)).toArray 28)).drew = .ok (.round l fn tmps assign body) (wr.alloc (.cells (d.1.map (Value.int .u8)).toArray 28)).drew := by
        have := hy0
        rw [show (⟨e, hem⟩ : Em es).1.k = d.1 from hek] at this
        exact this
      have HEK := hid_of hek
      clear hle hra hd hy0 hek
      gi_wp2_with (first | (refine inList_mid28 rfl _ rfl g (o + j * 32) rfl (d.1.map (Value.int .u8)) HRA.out hi28 ?_) | (refine inList_store_row rfl 28 _ _ rfl wr.heap.size (d.1.map (Value.int .u8)).toArray rfl rfl 28 _ (alloc_new _ _ rfl) hds HOD.out honed ?_; rw [setRow_new _ _ _ _ rfl]))
      refine wpIn_region_any (by kernel_rfl) ?_
      change wpAnyIn _ _ _ _ _ _ _ _ _ (wr.alloc (Obj.cells (List.map (Value.int IntKind.u8) d.1).toArray 28)).drew
      generalize (wr.alloc (Obj.cells (List.map (Value.int IntKind.u8) d.1).toArray 28)).drew = w3 at *
      refine wpAnyIn_take (i := 0) (v := ?_) rfl rfl (by kernel_rfl) (by kernel_rfl) (by kernel_rfl) (fun _ _ _ h => h) ⟨Or.inl ⟨by rfl, ?_⟩, fun _ => rfl⟩ ?_
      rotate_left 1
      · intro w
        go_simp
        try with_reducible rfl
      try simp only [Act.put, List.getElem_toArray, List.getElem_cons_zero, List.getElem_cons_succ, List.setIfInBounds_toArray, List.set_cons_zero, List.set_cons_succ]
      refine wpAnyIn_ready (rs := [1, 2, 3]) (by kernel_rfl) (by simp) ?_
      refine AllReadyIn.cons rfl (fun K hK => ?_) ?_
      · refine stIn_load28 rfl _ rfl wr.heap.size rfl 28 (d.1.map (Value.int .u8)).toArray (0, 0) HB5.out hds ?_
        refine hK _ _ ?_
        clear hK K
        try simp only [Act.put, List.getElem_toArray, List.getElem_cons_zero, List.getElem_cons_succ, List.setIfInBounds_toArray, List.set_cons_zero, List.set_cons_succ]
        refine wpAnyIn_ready (rs := [2, 3]) (by kernel_rfl) (by simp) ?_
        refine AllReadyIn.cons rfl (fun K hK => ?_) ?_
        · go_simp
          refine hK _ _ ?_
          clear hK K
          try simp only [Act.put, List.getElem_toArray, List.getElem_cons_zero, List.getElem_cons_succ, List.setIfInBounds_toArray, List.set_cons_zero, List.set_cons_succ]
          refine wpAnyIn_ready (rs := [3]) (by kernel_rfl) (by simp) ?_
          refine AllReadyIn.cons rfl (fun K hK => ?_) AllReadyIn.nil
          refine stIn_load28 rfl _ rfl wr.heap.size rfl 28 (d.1.map (Value.int .u8)).toArray (0, 0) HB5.out hds ?_
          refine hK _ _ ?_
          clear hK K
          try simp only [Act.put, List.getElem_toArray, List.getElem_cons_zero, List.getElem_cons_succ, List.setIfInBounds_toArray, List.set_cons_zero, List.set_cons_succ]
          refine wpAnyIn_ready (rs := [4]) (by kernel_rfl) (by simp) ?_
          refine AllReadyIn.cons rfl (fun K hK => ?_) AllReadyIn.nil
          go_simp
          refine hK _ _ ?_
          clear hK K
          try simp only [Act.put, List.getElem_toArray, List.getElem_cons_zero, List.getElem_cons_succ, List.setIfInBounds_toArray, List.set_cons_zero, List.set_cons_succ]
          refine wpAnyIn_ready (rs := [5]) (by kernel_rfl) (by simp) ?_
          refine AllReadyIn.cons rfl (fun K hK => ?_) AllReadyIn.nil
          go_simp
          refine hK _ _ ?_
          clear hK K
          try simp only [Act.put, List.getElem_toArray, List.getElem_cons_zero, List.getElem_cons_succ, List.setIfInBounds_toArray, List.set_cons_zero, List.set_cons_succ]
          refine wpAnyIn_ready (rs := [6]) (by kernel_rfl) (by simp) ?_
          refine AllReadyIn.cons rfl (fun K hK => ?_) AllReadyIn.nil
          go_simp
          refine hRn.mono ?_
          rintro e5 W5 (⟨rfl, hJ5, hk5⟩ | ⟨rfl, hJx5⟩)
          · have HJ5 := hid_of hJ5
            have HR5 := hid_of (HZ.out _ _ HR3.out hk5)
            clear hJ5 hk5
            refine hK _ _ ?_
            clear hK K
            try simp only [Act.put, List.getElem_toArray, List.getElem_cons_zero, List.getElem_cons_succ, List.setIfInBounds_toArray, List.set_cons_zero, List.set_cons_succ]
            refine wpAnyIn_take (i := 7) (v := ?_) rfl rfl (by kernel_rfl) (by kernel_rfl) (by kernel_rfl) (fun _ _ _ h => h) ⟨Or.inl ⟨by rfl, ?_⟩, fun _ => rfl⟩ ?_
            rotate_left 1
            · intro w
              go_simp
              try with_reducible rfl
            try simp only [Act.put, List.getElem_toArray, List.getElem_cons_zero, List.getElem_cons_succ, List.setIfInBounds_toArray, List.set_cons_zero, List.set_cons_succ]
            refine wpAnyIn_done (by kernel_rfl) ?_ _
            gi_wp2
            go_roundw
            case rel => exact ⟨j + 1, ss ++ [⟨e, hem⟩], by omega, by go_num, by rw [List.take_add_one, HD.out, List.map_append, List.map_append, HSS.out]; simp [HEK.out], HR5.out, HJ5.out⟩
            case measure => simp [intOf]; omega
          · have HJ5 := hid_of hJx5
            clear hJx5
            refine hK _ _ ?_
            clear hK K
            try simp only [Act.put, List.getElem_toArray, List.getElem_cons_zero, List.getElem_cons_succ, List.setIfInBounds_toArray, List.set_cons_zero, List.set_cons_succ]
            refine wpAnyIn_take (i := 7) (v := ?_) rfl rfl (by kernel_rfl) (by kernel_rfl) (by kernel_rfl) (fun _ _ _ h => h) ⟨Or.inl ⟨by rfl, ?_⟩, fun _ => rfl⟩ ?_
            rotate_left 1
            · intro w
              go_simp
              try with_reducible rfl
            try simp only [Act.put, List.getElem_toArray, List.getElem_cons_zero, List.getElem_cons_succ, List.setIfInBounds_toArray, List.set_cons_zero, List.set_cons_succ]
            refine wpAnyIn_done (by kernel_rfl) ?_ _
            gi_wp2
            refine bodyPost_ret (results_none rfl _ _ _) rfl ?_
            exact ⟨⟨_, rfl⟩, .inr ⟨_, trivial, HJ5.out⟩⟩
        refine AllReadyIn.cons rfl (fun K hK => ?_) AllReadyIn.nil
        refine stIn_load28 rfl _ rfl wr.heap.size rfl 28 (d.1.map (Value.int .u8)).toArray (0, 0) HB5.out hds ?_
        refine hK _ _ ?_
        clear hK K
        try simp only [Act.put, List.getElem_toArray, List.getElem_cons_zero, List.getElem_cons_succ, List.setIfInBounds_toArray, List.set_cons_zero, List.set_cons_succ]
        refine wpAnyIn_ready (rs := [2]) (by kernel_rfl) (by simp) ?_
        refine AllReadyIn.cons rfl (fun K hK => ?_) AllReadyIn.nil
        go_simp
        refine hK _ _ ?_
        clear hK K
        try simp only [Act.put, List.getElem_toArray, List.getElem_cons_zero, List.getElem_cons_succ, List.setIfInBounds_toArray, List.set_cons_zero, List.set_cons_succ]
        refine wpAnyIn_ready (rs := [4]) (by kernel_rfl) (by simp) ?_
        refine AllReadyIn.cons rfl (fun K hK => ?_) AllReadyIn.nil
        go_simp
        refine hK _ _ ?_
        clear hK K
        try simp only [Act.put, List.getElem_toArray, List.getElem_cons_zero, List.getElem_cons_succ, List.setIfInBounds_toArray, List.set_cons_zero, List.set_cons_succ]
        refine wpAnyIn_ready (rs := [5]) (by kernel_rfl) (by simp) ?_
        refine AllReadyIn.cons rfl (fun K hK => ?_) AllReadyIn.nil
        go_simp
        refine hK _ _ ?_
        clear hK K
        try simp only [Act.put, List.getElem_toArray, List.getElem_cons_zero, List.getElem_cons_succ, List.setIfInBounds_toArray, List.set_cons_zero, List.set_cons_succ]
        refine wpAnyIn_ready (rs := [6]) (by kernel_rfl) (by simp) ?_
        refine AllReadyIn.cons rfl (fun K hK => ?_) AllReadyIn.nil
        go_simp
        refine hRn.mono ?_
        rintro e5 W5 (⟨rfl, hJ5, hk5⟩ | ⟨rfl, hJx5⟩)
        · have HJ5 := hid_of hJ5
          have HR5 := hid_of (HZ.out _ _ HR3.out hk5)
          clear hJ5 hk5
          refine hK _ _ ?_
          clear hK K
          try simp only [Act.put, List.getElem_toArray, List.getElem_cons_zero, List.getElem_cons_succ, List.setIfInBounds_toArray, List.set_cons_zero, List.set_cons_succ]
          refine wpAnyIn_take (i := 7) (v := ?_) rfl rfl (by kernel_rfl) (by kernel_rfl) (by kernel_rfl) (fun _ _ _ h => h) ⟨Or.inl ⟨by rfl, ?_⟩, fun _ => rfl⟩ ?_
          rotate_left 1
          · intro w
            go_simp
            try with_reducible rfl
          try simp only [Act.put, List.getElem_toArray, List.getElem_cons_zero, List.getElem_cons_succ, List.setIfInBounds_toArray, List.set_cons_zero, List.set_cons_succ]
          refine wpAnyIn_done (by kernel_rfl) ?_ _
          gi_wp2
          go_roundw
          case rel => exact ⟨j + 1, ss ++ [⟨e, hem⟩], by omega, by go_num, by rw [List.take_add_one, HD.out, List.map_append, List.map_append, HSS.out]; simp [HEK.out], HR5.out, HJ5.out⟩
          case measure => simp [intOf]; omega
        · have HJ5 := hid_of hJx5
          clear hJx5
          refine hK _ _ ?_
          clear hK K
          try simp only [Act.put, List.getElem_toArray, List.getElem_cons_zero, List.getElem_cons_succ, List.setIfInBounds_toArray, List.set_cons_zero, List.set_cons_succ]
          refine wpAnyIn_take (i := 7) (v := ?_) rfl rfl (by kernel_rfl) (by kernel_rfl) (by kernel_rfl) (fun _ _ _ h => h) ⟨Or.inl ⟨by rfl, ?_⟩, fun _ => rfl⟩ ?_
          rotate_left 1
          · intro w
            go_simp
            try with_reducible rfl
          try simp only [Act.put, List.getElem_toArray, List.getElem_cons_zero, List.getElem_cons_succ, List.setIfInBounds_toArray, List.set_cons_zero, List.set_cons_succ]
          refine wpAnyIn_done (by kernel_rfl) ?_ _
          gi_wp2
          refine bodyPost_ret (results_none rfl _ _ _) rfl ?_
          exact ⟨⟨_, rfl⟩, .inr ⟨_, trivial, HJ5.out⟩⟩
      refine AllReadyIn.cons rfl (fun K hK => ?_) ?_
      · go_simp
        refine hK _ _ ?_
        clear hK K
        try simp only [Act.put, List.getElem_toArray, List.getElem_cons_zero, List.getElem_cons_succ, List.setIfInBounds_toArray, List.set_cons_zero, List.set_cons_succ]
        refine wpAnyIn_ready (rs := [1, 3]) (by kernel_rfl) (by simp) ?_
        refine AllReadyIn.cons rfl (fun K hK => ?_) ?_
        · refine stIn_load28 rfl _ rfl wr.heap.size rfl 28 (d.1.map (Value.int .u8)).toArray (0, 0) HB5.out hds ?_
          refine hK _ _ ?_
          clear hK K
          try simp only [Act.put, List.getElem_toArray, List.getElem_cons_zero, List.getElem_cons_succ, List.setIfInBounds_toArray, List.set_cons_zero, List.set_cons_succ]
          refine wpAnyIn_ready (rs := [3]) (by kernel_rfl) (by simp) ?_
          refine AllReadyIn.cons rfl (fun K hK => ?_) AllReadyIn.nil
          refine stIn_load28 rfl _ rfl wr.heap.size rfl 28 (d.1.map (Value.int .u8)).toArray (0, 0) HB5.out hds ?_
          refine hK _ _ ?_
          clear hK K
          try simp only [Act.put, List.getElem_toArray, List.getElem_cons_zero, List.getElem_cons_succ, List.setIfInBounds_toArray, List.set_cons_zero, List.set_cons_succ]
          refine wpAnyIn_ready (rs := [4]) (by kernel_rfl) (by simp) ?_
          refine AllReadyIn.cons rfl (fun K hK => ?_) AllReadyIn.nil
          go_simp
          refine hK _ _ ?_
          clear hK K
          try simp only [Act.put, List.getElem_toArray, List.getElem_cons_zero, List.getElem_cons_succ, List.setIfInBounds_toArray, List.set_cons_zero, List.set_cons_succ]
          refine wpAnyIn_ready (rs := [5]) (by kernel_rfl) (by simp) ?_
          refine AllReadyIn.cons rfl (fun K hK => ?_) AllReadyIn.nil
          go_simp
          refine hK _ _ ?_
          clear hK K
          try simp only [Act.put, List.getElem_toArray, List.getElem_cons_zero, List.getElem_cons_succ, List.setIfInBounds_toArray, List.set_cons_zero, List.set_cons_succ]
          refine wpAnyIn_ready (rs := [6]) (by kernel_rfl) (by simp) ?_
          refine AllReadyIn.cons rfl (fun K hK => ?_) AllReadyIn.nil
          go_simp
          refine hRn.mono ?_
          rintro e5 W5 (⟨rfl, hJ5, hk5⟩ | ⟨rfl, hJx5⟩)
          · have HJ5 := hid_of hJ5
            have HR5 := hid_of (HZ.out _ _ HR3.out hk5)
            clear hJ5 hk5
            refine hK _ _ ?_
            clear hK K
            try simp only [Act.put, List.getElem_toArray, List.getElem_cons_zero, List.getElem_cons_succ, List.setIfInBounds_toArray, List.set_cons_zero, List.set_cons_succ]
            refine wpAnyIn_take (i := 7) (v := ?_) rfl rfl (by kernel_rfl) (by kernel_rfl) (by kernel_rfl) (fun _ _ _ h => h) ⟨Or.inl ⟨by rfl, ?_⟩, fun _ => rfl⟩ ?_
            rotate_left 1
            · intro w
              go_simp
              try with_reducible rfl
            try simp only [Act.put, List.getElem_toArray, List.getElem_cons_zero, List.getElem_cons_succ, List.setIfInBounds_toArray, List.set_cons_zero, List.set_cons_succ]
            refine wpAnyIn_done (by kernel_rfl) ?_ _
            gi_wp2
            go_roundw
            case rel => exact ⟨j + 1, ss ++ [⟨e, hem⟩], by omega, by go_num, by rw [List.take_add_one, HD.out, List.map_append, List.map_append, HSS.out]; simp [HEK.out], HR5.out, HJ5.out⟩
            case measure => simp [intOf]; omega
          · have HJ5 := hid_of hJx5
            clear hJx5
            refine hK _ _ ?_
            clear hK K
            try simp only [Act.put, List.getElem_toArray, List.getElem_cons_zero, List.getElem_cons_succ, List.setIfInBounds_toArray, List.set_cons_zero, List.set_cons_succ]
            refine wpAnyIn_take (i := 7) (v := ?_) rfl rfl (by kernel_rfl) (by kernel_rfl) (by kernel_rfl) (fun _ _ _ h => h) ⟨Or.inl ⟨by rfl, ?_⟩, fun _ => rfl⟩ ?_
            rotate_left 1
            · intro w
              go_simp
              try with_reducible rfl
            try simp only [Act.put, List.getElem_toArray, List.getElem_cons_zero, List.getElem_cons_succ, List.setIfInBounds_toArray, List.set_cons_zero, List.set_cons_succ]
            refine wpAnyIn_done (by kernel_rfl) ?_ _
            gi_wp2
            refine bodyPost_ret (results_none rfl _ _ _) rfl ?_
            exact ⟨⟨_, rfl⟩, .inr ⟨_, trivial, HJ5.out⟩⟩
        refine AllReadyIn.cons rfl (fun K hK => ?_) AllReadyIn.nil
        refine stIn_load28 rfl _ rfl wr.heap.size rfl 28 (d.1.map (Value.int .u8)).toArray (0, 0) HB5.out hds ?_
        refine hK _ _ ?_
        clear hK K
        try simp only [Act.put, List.getElem_toArray, List.getElem_cons_zero, List.getElem_cons_succ, List.setIfInBounds_toArray, List.set_cons_zero, List.set_cons_succ]
        refine wpAnyIn_ready (rs := [1, 4]) (by kernel_rfl) (by simp) ?_
        refine AllReadyIn.cons rfl (fun K hK => ?_) ?_
        · refine stIn_load28 rfl _ rfl wr.heap.size rfl 28 (d.1.map (Value.int .u8)).toArray (0, 0) HB5.out hds ?_
          refine hK _ _ ?_
          clear hK K
          try simp only [Act.put, List.getElem_toArray, List.getElem_cons_zero, List.getElem_cons_succ, List.setIfInBounds_toArray, List.set_cons_zero, List.set_cons_succ]
          refine wpAnyIn_ready (rs := [4]) (by kernel_rfl) (by simp) ?_
          refine AllReadyIn.cons rfl (fun K hK => ?_) AllReadyIn.nil
          go_simp
          refine hK _ _ ?_
          clear hK K
          try simp only [Act.put, List.getElem_toArray, List.getElem_cons_zero, List.getElem_cons_succ, List.setIfInBounds_toArray, List.set_cons_zero, List.set_cons_succ]
          refine wpAnyIn_ready (rs := [5]) (by kernel_rfl) (by simp) ?_
          refine AllReadyIn.cons rfl (fun K hK => ?_) AllReadyIn.nil
          go_simp
          refine hK _ _ ?_
          clear hK K
          try simp only [Act.put, List.getElem_toArray, List.getElem_cons_zero, List.getElem_cons_succ, List.setIfInBounds_toArray, List.set_cons_zero, List.set_cons_succ]
          refine wpAnyIn_ready (rs := [6]) (by kernel_rfl) (by simp) ?_
          refine AllReadyIn.cons rfl (fun K hK => ?_) AllReadyIn.nil
          go_simp
          refine hRn.mono ?_
          rintro e5 W5 (⟨rfl, hJ5, hk5⟩ | ⟨rfl, hJx5⟩)
          · have HJ5 := hid_of hJ5
            have HR5 := hid_of (HZ.out _ _ HR3.out hk5)
            clear hJ5 hk5
            refine hK _ _ ?_
            clear hK K
            try simp only [Act.put, List.getElem_toArray, List.getElem_cons_zero, List.getElem_cons_succ, List.setIfInBounds_toArray, List.set_cons_zero, List.set_cons_succ]
            refine wpAnyIn_take (i := 7) (v := ?_) rfl rfl (by kernel_rfl) (by kernel_rfl) (by kernel_rfl) (fun _ _ _ h => h) ⟨Or.inl ⟨by rfl, ?_⟩, fun _ => rfl⟩ ?_
            rotate_left 1
            · intro w
              go_simp
              try with_reducible rfl
            try simp only [Act.put, List.getElem_toArray, List.getElem_cons_zero, List.getElem_cons_succ, List.setIfInBounds_toArray, List.set_cons_zero, List.set_cons_succ]
            refine wpAnyIn_done (by kernel_rfl) ?_ _
            gi_wp2
            go_roundw
            case rel => exact ⟨j + 1, ss ++ [⟨e, hem⟩], by omega, by go_num, by rw [List.take_add_one, HD.out, List.map_append, List.map_append, HSS.out]; simp [HEK.out], HR5.out, HJ5.out⟩
            case measure => simp [intOf]; omega
          · have HJ5 := hid_of hJx5
            clear hJx5
            refine hK _ _ ?_
            clear hK K
            try simp only [Act.put, List.getElem_toArray, List.getElem_cons_zero, List.getElem_cons_succ, List.setIfInBounds_toArray, List.set_cons_zero, List.set_cons_succ]
            refine wpAnyIn_take (i := 7) (v := ?_) rfl rfl (by kernel_rfl) (by kernel_rfl) (by kernel_rfl) (fun _ _ _ h => h) ⟨Or.inl ⟨by rfl, ?_⟩, fun _ => rfl⟩ ?_
            rotate_left 1
            · intro w
              go_simp
              try with_reducible rfl
            try simp only [Act.put, List.getElem_toArray, List.getElem_cons_zero, List.getElem_cons_succ, List.setIfInBounds_toArray, List.set_cons_zero, List.set_cons_succ]
            refine wpAnyIn_done (by kernel_rfl) ?_ _
            gi_wp2
            refine bodyPost_ret (results_none rfl _ _ _) rfl ?_
            exact ⟨⟨_, rfl⟩, .inr ⟨_, trivial, HJ5.out⟩⟩
        refine AllReadyIn.cons rfl (fun K hK => ?_) AllReadyIn.nil
        go_simp
        refine hK _ _ ?_
        clear hK K
        try simp only [Act.put, List.getElem_toArray, List.getElem_cons_zero, List.getElem_cons_succ, List.setIfInBounds_toArray, List.set_cons_zero, List.set_cons_succ]
        refine wpAnyIn_ready (rs := [1, 5]) (by kernel_rfl) (by simp) ?_
        refine AllReadyIn.cons rfl (fun K hK => ?_) ?_
        · refine stIn_load28 rfl _ rfl wr.heap.size rfl 28 (d.1.map (Value.int .u8)).toArray (0, 0) HB5.out hds ?_
          refine hK _ _ ?_
          clear hK K
          try simp only [Act.put, List.getElem_toArray, List.getElem_cons_zero, List.getElem_cons_succ, List.setIfInBounds_toArray, List.set_cons_zero, List.set_cons_succ]
          refine wpAnyIn_ready (rs := [5]) (by kernel_rfl) (by simp) ?_
          refine AllReadyIn.cons rfl (fun K hK => ?_) AllReadyIn.nil
          go_simp
          refine hK _ _ ?_
          clear hK K
          try simp only [Act.put, List.getElem_toArray, List.getElem_cons_zero, List.getElem_cons_succ, List.setIfInBounds_toArray, List.set_cons_zero, List.set_cons_succ]
          refine wpAnyIn_ready (rs := [6]) (by kernel_rfl) (by simp) ?_
          refine AllReadyIn.cons rfl (fun K hK => ?_) AllReadyIn.nil
          go_simp
          refine hRn.mono ?_
          rintro e5 W5 (⟨rfl, hJ5, hk5⟩ | ⟨rfl, hJx5⟩)
          · have HJ5 := hid_of hJ5
            have HR5 := hid_of (HZ.out _ _ HR3.out hk5)
            clear hJ5 hk5
            refine hK _ _ ?_
            clear hK K
            try simp only [Act.put, List.getElem_toArray, List.getElem_cons_zero, List.getElem_cons_succ, List.setIfInBounds_toArray, List.set_cons_zero, List.set_cons_succ]
            refine wpAnyIn_take (i := 7) (v := ?_) rfl rfl (by kernel_rfl) (by kernel_rfl) (by kernel_rfl) (fun _ _ _ h => h) ⟨Or.inl ⟨by rfl, ?_⟩, fun _ => rfl⟩ ?_
            rotate_left 1
            · intro w
              go_simp
              try with_reducible rfl
            try simp only [Act.put, List.getElem_toArray, List.getElem_cons_zero, List.getElem_cons_succ, List.setIfInBounds_toArray, List.set_cons_zero, List.set_cons_succ]
            refine wpAnyIn_done (by kernel_rfl) ?_ _
            gi_wp2
            go_roundw
            case rel => exact ⟨j + 1, ss ++ [⟨e, hem⟩], by omega, by go_num, by rw [List.take_add_one, HD.out, List.map_append, List.map_append, HSS.out]; simp [HEK.out], HR5.out, HJ5.out⟩
            case measure => simp [intOf]; omega
          · have HJ5 := hid_of hJx5
            clear hJx5
            refine hK _ _ ?_
            clear hK K
            try simp only [Act.put, List.getElem_toArray, List.getElem_cons_zero, List.getElem_cons_succ, List.setIfInBounds_toArray, List.set_cons_zero, List.set_cons_succ]
            refine wpAnyIn_take (i := 7) (v := ?_) rfl rfl (by kernel_rfl) (by kernel_rfl) (by kernel_rfl) (fun _ _ _ h => h) ⟨Or.inl ⟨by rfl, ?_⟩, fun _ => rfl⟩ ?_
            rotate_left 1
            · intro w
              go_simp
              try with_reducible rfl
            try simp only [Act.put, List.getElem_toArray, List.getElem_cons_zero, List.getElem_cons_succ, List.setIfInBounds_toArray, List.set_cons_zero, List.set_cons_succ]
            refine wpAnyIn_done (by kernel_rfl) ?_ _
            gi_wp2
            refine bodyPost_ret (results_none rfl _ _ _) rfl ?_
            exact ⟨⟨_, rfl⟩, .inr ⟨_, trivial, HJ5.out⟩⟩
        refine AllReadyIn.cons rfl (fun K hK => ?_) AllReadyIn.nil
        go_simp
        refine hK _ _ ?_
        clear hK K
        try simp only [Act.put, List.getElem_toArray, List.getElem_cons_zero, List.getElem_cons_succ, List.setIfInBounds_toArray, List.set_cons_zero, List.set_cons_succ]
        refine wpAnyIn_ready (rs := [1]) (by kernel_rfl) (by simp) ?_
        refine AllReadyIn.cons rfl (fun K hK => ?_) AllReadyIn.nil
        refine stIn_load28 rfl _ rfl wr.heap.size rfl 28 (d.1.map (Value.int .u8)).toArray (0, 0) HB5.out hds ?_
        refine hK _ _ ?_
        clear hK K
        try simp only [Act.put, List.getElem_toArray, List.getElem_cons_zero, List.getElem_cons_succ, List.setIfInBounds_toArray, List.set_cons_zero, List.set_cons_succ]
        refine wpAnyIn_ready (rs := [6]) (by kernel_rfl) (by simp) ?_
        refine AllReadyIn.cons rfl (fun K hK => ?_) AllReadyIn.nil
        go_simp
        refine hRn.mono ?_
        rintro e5 W5 (⟨rfl, hJ5, hk5⟩ | ⟨rfl, hJx5⟩)
        · have HJ5 := hid_of hJ5
          have HR5 := hid_of (HZ.out _ _ HR3.out hk5)
          clear hJ5 hk5
          refine hK _ _ ?_
          clear hK K
          try simp only [Act.put, List.getElem_toArray, List.getElem_cons_zero, List.getElem_cons_succ, List.setIfInBounds_toArray, List.set_cons_zero, List.set_cons_succ]
          refine wpAnyIn_take (i := 7) (v := ?_) rfl rfl (by kernel_rfl) (by kernel_rfl) (by kernel_rfl) (fun _ _ _ h => h) ⟨Or.inl ⟨by rfl, ?_⟩, fun _ => rfl⟩ ?_
          rotate_left 1
          · intro w
            go_simp
            try with_reducible rfl
          try simp only [Act.put, List.getElem_toArray, List.getElem_cons_zero, List.getElem_cons_succ, List.setIfInBounds_toArray, List.set_cons_zero, List.set_cons_succ]
          refine wpAnyIn_done (by kernel_rfl) ?_ _
          gi_wp2
          go_roundw
          case rel => exact ⟨j + 1, ss ++ [⟨e, hem⟩], by omega, by go_num, by rw [List.take_add_one, HD.out, List.map_append, List.map_append, HSS.out]; simp [HEK.out], HR5.out, HJ5.out⟩
          case measure => simp [intOf]; omega
        · have HJ5 := hid_of hJx5
          clear hJx5
          refine hK _ _ ?_
          clear hK K
          try simp only [Act.put, List.getElem_toArray, List.getElem_cons_zero, List.getElem_cons_succ, List.setIfInBounds_toArray, List.set_cons_zero, List.set_cons_succ]
          refine wpAnyIn_take (i := 7) (v := ?_) rfl rfl (by kernel_rfl) (by kernel_rfl) (by kernel_rfl) (fun _ _ _ h => h) ⟨Or.inl ⟨by rfl, ?_⟩, fun _ => rfl⟩ ?_
          rotate_left 1
          · intro w
            go_simp
            try with_reducible rfl
          try simp only [Act.put, List.getElem_toArray, List.getElem_cons_zero, List.getElem_cons_succ, List.setIfInBounds_toArray, List.set_cons_zero, List.set_cons_succ]
          refine wpAnyIn_done (by kernel_rfl) ?_ _
          gi_wp2
          refine bodyPost_ret (results_none rfl _ _ _) rfl ?_
          exact ⟨⟨_, rfl⟩, .inr ⟨_, trivial, HJ5.out⟩⟩
      refine AllReadyIn.cons rfl (fun K hK => ?_) AllReadyIn.nil
      refine stIn_load28 rfl _ rfl wr.heap.size rfl 28 (d.1.map (Value.int .u8)).toArray (0, 0) HB5.out hds ?_
      refine hK _ _ ?_
      clear hK K
      try simp only [Act.put, List.getElem_toArray, List.getElem_cons_zero, List.getElem_cons_succ, List.setIfInBounds_toArray, List.set_cons_zero, List.set_cons_succ]
      refine wpAnyIn_ready (rs := [1, 2]) (by kernel_rfl) (by simp) ?_
      refine AllReadyIn.cons rfl (fun K hK => ?_) ?_
      · refine stIn_load28 rfl _ rfl wr.heap.size rfl 28 (d.1.map (Value.int .u8)).toArray (0, 0) HB5.out hds ?_
        refine hK _ _ ?_
        clear hK K
        try simp only [Act.put, List.getElem_toArray, List.getElem_cons_zero, List.getElem_cons_succ, List.setIfInBounds_toArray, List.set_cons_zero, List.set_cons_succ]
        refine wpAnyIn_ready (rs := [2]) (by kernel_rfl) (by simp) ?_
        refine AllReadyIn.cons rfl (fun K hK => ?_) AllReadyIn.nil
        go_simp
        refine hK _ _ ?_
        clear hK K
        try simp only [Act.put, List.getElem_toArray, List.getElem_cons_zero, List.getElem_cons_succ, List.setIfInBounds_toArray, List.set_cons_zero, List.set_cons_succ]
        refine wpAnyIn_ready (rs := [4]) (by kernel_rfl) (by simp) ?_
        refine AllReadyIn.cons rfl (fun K hK => ?_) AllReadyIn.nil
        go_simp
        refine hK _ _ ?_
        clear hK K
        try simp only [Act.put, List.getElem_toArray, List.getElem_cons_zero, List.getElem_cons_succ, List.setIfInBounds_toArray, List.set_cons_zero, List.set_cons_succ]
        refine wpAnyIn_ready (rs := [5]) (by kernel_rfl) (by simp) ?_
        refine AllReadyIn.cons rfl (fun K hK => ?_) AllReadyIn.nil
        go_simp
        refine hK _ _ ?_
        clear hK K
        try simp only [Act.put, List.getElem_toArray, List.getElem_cons_zero, List.getElem_cons_succ, List.setIfInBounds_toArray, List.set_cons_zero, List.set_cons_succ]
        refine wpAnyIn_ready (rs := [6]) (by kernel_rfl) (by simp) ?_
        refine AllReadyIn.cons rfl (fun K hK => ?_) AllReadyIn.nil
        go_simp
        refine hRn.mono ?_
        rintro e5 W5 (⟨rfl, hJ5, hk5⟩ | ⟨rfl, hJx5⟩)
        · have HJ5 := hid_of hJ5
          have HR5 := hid_of (HZ.out _ _ HR3.out hk5)
          clear hJ5 hk5
          refine hK _ _ ?_
          clear hK K
          try simp only [Act.put, List.getElem_toArray, List.getElem_cons_zero, List.getElem_cons_succ, List.setIfInBounds_toArray, List.set_cons_zero, List.set_cons_succ]
          refine wpAnyIn_take (i := 7) (v := ?_) rfl rfl (by kernel_rfl) (by kernel_rfl) (by kernel_rfl) (fun _ _ _ h => h) ⟨Or.inl ⟨by rfl, ?_⟩, fun _ => rfl⟩ ?_
          rotate_left 1
          · intro w
            go_simp
            try with_reducible rfl
          try simp only [Act.put, List.getElem_toArray, List.getElem_cons_zero, List.getElem_cons_succ, List.setIfInBounds_toArray, List.set_cons_zero, List.set_cons_succ]
          refine wpAnyIn_done (by kernel_rfl) ?_ _
          gi_wp2
          go_roundw
          case rel => exact ⟨j + 1, ss ++ [⟨e, hem⟩], by omega, by go_num, by rw [List.take_add_one, HD.out, List.map_append, List.map_append, HSS.out]; simp [HEK.out], HR5.out, HJ5.out⟩
          case measure => simp [intOf]; omega
        · have HJ5 := hid_of hJx5
          clear hJx5
          refine hK _ _ ?_
          clear hK K
          try simp only [Act.put, List.getElem_toArray, List.getElem_cons_zero, List.getElem_cons_succ, List.setIfInBounds_toArray, List.set_cons_zero, List.set_cons_succ]
          refine wpAnyIn_take (i := 7) (v := ?_) rfl rfl (by kernel_rfl) (by kernel_rfl) (by kernel_rfl) (fun _ _ _ h => h) ⟨Or.inl ⟨by rfl, ?_⟩, fun _ => rfl⟩ ?_
          rotate_left 1
          · intro w
            go_simp
            try with_reducible rfl
          try simp only [Act.put, List.getElem_toArray, List.getElem_cons_zero, List.getElem_cons_succ, List.setIfInBounds_toArray, List.set_cons_zero, List.set_cons_succ]
          refine wpAnyIn_done (by kernel_rfl) ?_ _
          gi_wp2
          refine bodyPost_ret (results_none rfl _ _ _) rfl ?_
          exact ⟨⟨_, rfl⟩, .inr ⟨_, trivial, HJ5.out⟩⟩
      refine AllReadyIn.cons rfl (fun K hK => ?_) AllReadyIn.nil
      go_simp
      refine hK _ _ ?_
      clear hK K
      try simp only [Act.put, List.getElem_toArray, List.getElem_cons_zero, List.getElem_cons_succ, List.setIfInBounds_toArray, List.set_cons_zero, List.set_cons_succ]
      refine wpAnyIn_ready (rs := [1, 4]) (by kernel_rfl) (by simp) ?_
      refine AllReadyIn.cons rfl (fun K hK => ?_) ?_
      · refine stIn_load28 rfl _ rfl wr.heap.size rfl 28 (d.1.map (Value.int .u8)).toArray (0, 0) HB5.out hds ?_
        refine hK _ _ ?_
        clear hK K
        try simp only [Act.put, List.getElem_toArray, List.getElem_cons_zero, List.getElem_cons_succ, List.setIfInBounds_toArray, List.set_cons_zero, List.set_cons_succ]
        refine wpAnyIn_ready (rs := [4]) (by kernel_rfl) (by simp) ?_
        refine AllReadyIn.cons rfl (fun K hK => ?_) AllReadyIn.nil
        go_simp
        refine hK _ _ ?_
        clear hK K
        try simp only [Act.put, List.getElem_toArray, List.getElem_cons_zero, List.getElem_cons_succ, List.setIfInBounds_toArray, List.set_cons_zero, List.set_cons_succ]
        refine wpAnyIn_ready (rs := [5]) (by kernel_rfl) (by simp) ?_
        refine AllReadyIn.cons rfl (fun K hK => ?_) AllReadyIn.nil
        go_simp
        refine hK _ _ ?_
        clear hK K
        try simp only [Act.put, List.getElem_toArray, List.getElem_cons_zero, List.getElem_cons_succ, List.setIfInBounds_toArray, List.set_cons_zero, List.set_cons_succ]
        refine wpAnyIn_ready (rs := [6]) (by kernel_rfl) (by simp) ?_
        refine AllReadyIn.cons rfl (fun K hK => ?_) AllReadyIn.nil
        go_simp
        refine hRn.mono ?_
        rintro e5 W5 (⟨rfl, hJ5, hk5⟩ | ⟨rfl, hJx5⟩)
        · have HJ5 := hid_of hJ5
          have HR5 := hid_of (HZ.out _ _ HR3.out hk5)
          clear hJ5 hk5
          refine hK _ _ ?_
          clear hK K
          try simp only [Act.put, List.getElem_toArray, List.getElem_cons_zero, List.getElem_cons_succ, List.setIfInBounds_toArray, List.set_cons_zero, List.set_cons_succ]
          refine wpAnyIn_take (i := 7) (v := ?_) rfl rfl (by kernel_rfl) (by kernel_rfl) (by kernel_rfl) (fun _ _ _ h => h) ⟨Or.inl ⟨by rfl, ?_⟩, fun _ => rfl⟩ ?_
          rotate_left 1
          · intro w
            go_simp
            try with_reducible rfl
          try simp only [Act.put, List.getElem_toArray, List.getElem_cons_zero, List.getElem_cons_succ, List.setIfInBounds_toArray, List.set_cons_zero, List.set_cons_succ]
          refine wpAnyIn_done (by kernel_rfl) ?_ _
          gi_wp2
          go_roundw
          case rel => exact ⟨j + 1, ss ++ [⟨e, hem⟩], by omega, by go_num, by rw [List.take_add_one, HD.out, List.map_append, List.map_append, HSS.out]; simp [HEK.out], HR5.out, HJ5.out⟩
          case measure => simp [intOf]; omega
        · have HJ5 := hid_of hJx5
          clear hJx5
          refine hK _ _ ?_
          clear hK K
          try simp only [Act.put, List.getElem_toArray, List.getElem_cons_zero, List.getElem_cons_succ, List.setIfInBounds_toArray, List.set_cons_zero, List.set_cons_succ]
          refine wpAnyIn_take (i := 7) (v := ?_) rfl rfl (by kernel_rfl) (by kernel_rfl) (by kernel_rfl) (fun _ _ _ h => h) ⟨Or.inl ⟨by rfl, ?_⟩, fun _ => rfl⟩ ?_
          rotate_left 1
          · intro w
            go_simp
            try with_reducible rfl
          try simp only [Act.put, List.getElem_toArray, List.getElem_cons_zero, List.getElem_cons_succ, List.setIfInBounds_toArray, List.set_cons_zero, List.set_cons_succ]
          refine wpAnyIn_done (by kernel_rfl) ?_ _
          gi_wp2
          refine bodyPost_ret (results_none rfl _ _ _) rfl ?_
          exact ⟨⟨_, rfl⟩, .inr ⟨_, trivial, HJ5.out⟩⟩
      refine AllReadyIn.cons rfl (fun K hK => ?_) AllReadyIn.nil
      go_simp
      refine hK _ _ ?_
      clear hK K
      try simp only [Act.put, List.getElem_toArray, List.getElem_cons_zero, List.getElem_cons_succ, List.setIfInBounds_toArray, List.set_cons_zero, List.set_cons_succ]
      refine wpAnyIn_ready (rs := [1, 5]) (by kernel_rfl) (by simp) ?_
      refine AllReadyIn.cons rfl (fun K hK => ?_) ?_
      · refine stIn_load28 rfl _ rfl wr.heap.size rfl 28 (d.1.map (Value.int .u8)).toArray (0, 0) HB5.out hds ?_
        refine hK _ _ ?_
        clear hK K
        try simp only [Act.put, List.getElem_toArray, List.getElem_cons_zero, List.getElem_cons_succ, List.setIfInBounds_toArray, List.set_cons_zero, List.set_cons_succ]
        refine wpAnyIn_ready (rs := [5]) (by kernel_rfl) (by simp) ?_
        refine AllReadyIn.cons rfl (fun K hK => ?_) AllReadyIn.nil
        go_simp
        refine hK _ _ ?_
        clear hK K
        try simp only [Act.put, List.getElem_toArray, List.getElem_cons_zero, List.getElem_cons_succ, List.setIfInBounds_toArray, List.set_cons_zero, List.set_cons_succ]
        refine wpAnyIn_ready (rs := [6]) (by kernel_rfl) (by simp) ?_
        refine AllReadyIn.cons rfl (fun K hK => ?_) AllReadyIn.nil
        go_simp
        refine hRn.mono ?_
        rintro e5 W5 (⟨rfl, hJ5, hk5⟩ | ⟨rfl, hJx5⟩)
        · have HJ5 := hid_of hJ5
          have HR5 := hid_of (HZ.out _ _ HR3.out hk5)
          clear hJ5 hk5
          refine hK _ _ ?_
          clear hK K
          try simp only [Act.put, List.getElem_toArray, List.getElem_cons_zero, List.getElem_cons_succ, List.setIfInBounds_toArray, List.set_cons_zero, List.set_cons_succ]
          refine wpAnyIn_take (i := 7) (v := ?_) rfl rfl (by kernel_rfl) (by kernel_rfl) (by kernel_rfl) (fun _ _ _ h => h) ⟨Or.inl ⟨by rfl, ?_⟩, fun _ => rfl⟩ ?_
          rotate_left 1
          · intro w
            go_simp
            try with_reducible rfl
          try simp only [Act.put, List.getElem_toArray, List.getElem_cons_zero, List.getElem_cons_succ, List.setIfInBounds_toArray, List.set_cons_zero, List.set_cons_succ]
          refine wpAnyIn_done (by kernel_rfl) ?_ _
          gi_wp2
          go_roundw
          case rel => exact ⟨j + 1, ss ++ [⟨e, hem⟩], by omega, by go_num, by rw [List.take_add_one, HD.out, List.map_append, List.map_append, HSS.out]; simp [HEK.out], HR5.out, HJ5.out⟩
          case measure => simp [intOf]; omega
        · have HJ5 := hid_of hJx5
          clear hJx5
          refine hK _ _ ?_
          clear hK K
          try simp only [Act.put, List.getElem_toArray, List.getElem_cons_zero, List.getElem_cons_succ, List.setIfInBounds_toArray, List.set_cons_zero, List.set_cons_succ]
          refine wpAnyIn_take (i := 7) (v := ?_) rfl rfl (by kernel_rfl) (by kernel_rfl) (by kernel_rfl) (fun _ _ _ h => h) ⟨Or.inl ⟨by rfl, ?_⟩, fun _ => rfl⟩ ?_
          rotate_left 1
          · intro w
            go_simp
            try with_reducible rfl
          try simp only [Act.put, List.getElem_toArray, List.getElem_cons_zero, List.getElem_cons_succ, List.setIfInBounds_toArray, List.set_cons_zero, List.set_cons_succ]
          refine wpAnyIn_done (by kernel_rfl) ?_ _
          gi_wp2
          refine bodyPost_ret (results_none rfl _ _ _) rfl ?_
          exact ⟨⟨_, rfl⟩, .inr ⟨_, trivial, HJ5.out⟩⟩
      refine AllReadyIn.cons rfl (fun K hK => ?_) AllReadyIn.nil
      go_simp
      refine hK _ _ ?_
      clear hK K
      try simp only [Act.put, List.getElem_toArray, List.getElem_cons_zero, List.getElem_cons_succ, List.setIfInBounds_toArray, List.set_cons_zero, List.set_cons_succ]
      refine wpAnyIn_ready (rs := [1]) (by kernel_rfl) (by simp) ?_
      refine AllReadyIn.cons rfl (fun K hK => ?_) AllReadyIn.nil
      refine stIn_load28 rfl _ rfl wr.heap.size rfl 28 (d.1.map (Value.int .u8)).toArray (0, 0) HB5.out hds ?_
      refine hK _ _ ?_
      clear hK K
      try simp only [Act.put, List.getElem_toArray, List.getElem_cons_zero, List.getElem_cons_succ, List.setIfInBounds_toArray, List.set_cons_zero, List.set_cons_succ]
      refine wpAnyIn_ready (rs := [6]) (by kernel_rfl) (by simp) ?_
      refine AllReadyIn.cons rfl (fun K hK => ?_) AllReadyIn.nil
      go_simp
      refine hRn.mono ?_
      rintro e5 W5 (⟨rfl, hJ5, hk5⟩ | ⟨rfl, hJx5⟩)
      · have HJ5 := hid_of hJ5
        have HR5 := hid_of (HZ.out _ _ HR3.out hk5)
        clear hJ5 hk5
        refine hK _ _ ?_
        clear hK K
        try simp only [Act.put, List.getElem_toArray, List.getElem_cons_zero, List.getElem_cons_succ, List.setIfInBounds_toArray, List.set_cons_zero, List.set_cons_succ]
        refine wpAnyIn_take (i := 7) (v := ?_) rfl rfl (by kernel_rfl) (by kernel_rfl) (by kernel_rfl) (fun _ _ _ h => h) ⟨Or.inl ⟨by rfl, ?_⟩, fun _ => rfl⟩ ?_
        rotate_left 1
        · intro w
          go_simp
          try with_reducible rfl
        try simp only [Act.put, List.getElem_toArray, List.getElem_cons_zero, List.getElem_cons_succ, List.setIfInBounds_toArray, List.set_cons_zero, List.set_cons_succ]
        refine wpAnyIn_done (by kernel_rfl) ?_ _
        gi_wp2
        go_roundw
        case rel => exact ⟨j + 1, ss ++ [⟨e, hem⟩], by omega, by go_num, by rw [List.take_add_one, HD.out, List.map_append, List.map_append, HSS.out]; simp [HEK.out], HR5.out, HJ5.out⟩
        case measure => simp [intOf]; omega
      · have HJ5 := hid_of hJx5
        clear hJx5
        refine hK _ _ ?_
        clear hK K
        try simp only [Act.put, List.getElem_toArray, List.getElem_cons_zero, List.getElem_cons_succ, List.setIfInBounds_toArray, List.set_cons_zero, List.set_cons_succ]
        refine wpAnyIn_take (i := 7) (v := ?_) rfl rfl (by kernel_rfl) (by kernel_rfl) (by kernel_rfl) (fun _ _ _ h => h) ⟨Or.inl ⟨by rfl, ?_⟩, fun _ => rfl⟩ ?_
        rotate_left 1
        · intro w
          go_simp
          try with_reducible rfl
        try simp only [Act.put, List.getElem_toArray, List.getElem_cons_zero, List.getElem_cons_succ, List.setIfInBounds_toArray, List.set_cons_zero, List.set_cons_succ]
        refine wpAnyIn_done (by kernel_rfl) ?_ _
        gi_wp2
        refine bodyPost_ret (results_none rfl _ _ _) rfl ?_
        exact ⟨⟨_, rfl⟩, .inr ⟨_, trivial, HJ5.out⟩⟩
    · have hjI : ¬ (j : Int) < (ds.length : Int) := by omega
      obtain rfl : j = ds.length := by omega
      gi_wp2
      go_end0
      exact ⟨⟨_, rfl⟩, .inl ⟨ss, by have h7 := HSS.out; rw [List.take_length] at h7; simpa using h7, HJS.out⟩⟩
end Go.Proofs.YtjdbmjkidljhpaaDoor

namespace Go.Proofs.YtjdbmjkidljhpaaDoor
open Go.RowKit Go.Shelf
attribute [local go_sem] Oper.semAt_some
set_option linter.unusedVariables false
set_option linter.unusedSimpArgs false
set_option maxRecDepth 100000

/-- What a sequence promises a loop that no round leaves early, where the sequence may run loops of its own. -/
def SeqOwn {α : Type} (n g : Nat) (lb : Array Value) (encs : α → Array Value) (Y : Nat → Prop) (S : List α → Prop) (M : Nat) (w : World) : Prop :=
  ∀ (l : Nat) (J : List α → World → Prop) (W : World), Below w.heap.size w W → (∀ k, Y k → k < W.heap.size) → OwnFrom W.heap.size J →
    (∀ pre x W1, J pre W1 → pre.length < M → YieldAt Fence.wide (n - 1) Tryd.prog l (encs x) W1 fun e W' => e = .returned (.bool true) ∧ J (pre ++ [x]) W' ∧ Kept Y W1 W') →
    J [] W → CallsIn Fence.wide n Tryd.prog g (#[.func (.yield l) #[] #[]] ++ lb) W fun e W' => (∃ v, e = .returned v) ∧ ∃ xs, S xs ∧ J xs W'

theorem KeepsFrom.of_kept {Y : Nat → Prop} {B : Nat} {A C : World} (h : Kept Y A C) (hY : ∀ k, B ≤ k → ¬ Y k) : KeepsFrom B A C := ⟨h.size, fun k o hB hk _ => (h.block k (heap_lt hk) (hY k hB)).trans hk⟩
theorem KeepsB.of_kepts {Y Z : Nat → Prop} {A C : World} (h : Kept Y A C) (hY : ∀ k, Z k → ¬ Y k) : KeepsB Z A C := ⟨h.size, fun k hz hk => h.block k hk (hY k hz)⟩
/-- The loop over such a sequence. -/
theorem range_seq {n : Nat} {α : Type} {g : Operand} {ps : Array Tmp} {assign body : Code} {Q : Exit → Act → World → Prop} {a : Act} {w : World} (h1 : 1 ≤ n) {gf : Nat} {lb : Array Value} (hg : a.eval g = .func (.func gf) #[] lb) (eg : ∀ args w, (callFunc gf args).run Tryd.prog w = .ok (.enter gf args) w)
    {encs : α → Array Value} {Y : Nat → Prop} {S : List α → Prop} {M : Nat} {w0 : World} (hseq : SeqOwn (n - 1) gf lb encs Y S M w0) (hY : ∀ k, Y k → k < w.heap.size)
    (hb0 : Below w0.heap.size w0 w) (hps : ∀ x, (encs x).size = ps.size) (I : List α → World → Prop) (hI : OwnFrom w.heap.size I) (h0 : I [] w) (tm : α → Array Value)
    (hassign : ∀ (l : Nat) (x : α) (W : World) (K : Act → World → Prop), K { tmps := tm x, defers := [] } W → assign.wpIn (Fence.wide.inRound l) (n - 1 - 1) Tryd.prog (Exit.then K (fun _ _ _ => False)) { tmps := (ps.zip (encs x)).foldl (fun t (p, v) => t.setIfInBounds p v) a.tmps, defers := [] } W)
    (hbody : ∀ (l : Nat) (pre : List α) (x : α) (W : World), I pre W → pre.length < M → body.wpIn (Fence.wide.inRound l) (n - 1 - 1) Tryd.prog (fun e _ W' => e = .normal ∧ Kept Y W W' ∧ I (pre ++ [x]) W') { tmps := tm x, defers := [] } W)
    (hdone : ∀ (D : Nat) (xs : List α) (W : World), w.heap.size ≤ D → S xs → I xs W → W.heap[D]? = some (.deferred (some [])) → Q .normal { a with defers := { target := .collected D, args := #[] } :: a.defers } W) :
    (Code.rangeFunc g ps assign body).wpIn Fence.wide n Tryd.prog Q a w := by
  have hw2 : (w.alloc (.deferred (some []))).heap.size = w.heap.size + 1 := by simp
  refine wpIn_rangeFunc fun fn hfn => ?_
  obtain ⟨L, hL⟩ : ∃ L : LoopState → Option Code → Loop, L = fun st pe => { state := st, pending := pe, fn := fn, tmps := a.tmps, params := ps, assign := assign, body := body, defers := w.heap.size } := ⟨_, rfl⟩
  obtain ⟨V, hV⟩ : ∃ V, V = (w.alloc (.deferred (some []))).alloc (.loop (L .ready none)) := ⟨_, rfl⟩
  have hk : Kept (fun _ => False) w V := by rw [hV]; exact ((Kept.refl _ w).alloc _).alloc _
  have hsV : V.heap.size = w.heap.size + 2 := by rw [hV]; simp
  have hl0 : V.heap[w.heap.size + 1]? = some (.loop (L .ready none)) := by rw [hV]; exact alloc_new _ _ hw2.symm
  have hd0 : V.heap[w.heap.size]? = some (.deferred (some [])) := by rw [hV]; exact alloc_old (alloc_new _ _ rfl)
  have hI0 : I [] V := hI [] w V none h0 hk.grow (fun r e => by cases e)
  refine ⟨w.heap.size + 1, [{ target := .collected w.heap.size, args := #[] }], V, { target := .fn (.func gf) lb, args := #[.func (.yield (w.heap.size + 1)) #[] #[]] }, V, gf, #[.func (.yield (w.heap.size + 1)) #[] #[]] ++ lb, V, ?_, ?_, fun _ _ => trivial, ?_, fun _ => h1, ?_⟩
  · rw [hV, hL]
    exact run_enterLoop_outer _ _ _ _ _
  · simp only [resolve, hg]
    simp [go_sem]
  · simp [invoke, go_sem, eg]
  -- what is held between the rounds
  have abide : OwnFrom V.heap.size (fun (pre : List α) W => I pre W ∧ W.heap[w.heap.size + 1]? = some (.loop (L .ready none)) ∧ W.heap[w.heap.size]? = some (.deferred (some []))) := fun pre A B row hs hgr hr => by
    have far : ∀ k, k < w.heap.size + 2 → k < A.heap.size → B.heap[k]? = A.heap[k]? := fun k hk hA => hgr.block k hA (fun e => by have := (hr k e.symm).1; omega)
    exact ⟨hI pre A B row hs.1 hgr (fun r e => ⟨by have := (hr r e).1; omega, (hr r e).2⟩), (far _ (by omega) (heap_lt hs.2.1)).trans hs.2.1, (far _ (by omega) (heap_lt hs.2.2)).trans hs.2.2⟩
  refine (hseq (w.heap.size + 1) _ V (hb0.trans (hk.below hb0.size (fun _ f => f.elim))) (fun k hk' => by have := hY k hk'; omega) abide ?_ ⟨hI0, hl0, hd0⟩).mono ?_
  · rintro pre x W ⟨hi, hl, hd⟩ hlen
    have hy := run_yield (P := Tryd.prog) (args := encs x) hl (by rw [hL]; exact hps x)
    rw [hL] at hy
    refine ⟨fn, _, assign, body, hy, roundIn_of_wpIn hfn (hassign _ x W _ ⟨_, run_beginRound hl (by rw [hL]), ?_⟩)⟩
    clear hy
    obtain ⟨U, hU⟩ : ∃ U, U = W.putObj (w.heap.size + 1) (.loop { L .ready none with state := .busy }) := ⟨_, rfl⟩
    have hlU : U.heap[w.heap.size + 1]? = some (.loop { L .ready none with state := .busy }) := by rw [hU]; exact World.putObj_heap_same (heap_lt hl)
    have hdU : U.heap[w.heap.size]? = some (.deferred (some [])) := by rw [hU]; exact (World.putObj_heap_other (by omega)).trans hd
    have hiU : I pre U := by rw [hU]; exact hI.putObj _ hi (by omega) hl rfl
    have hoU : ∀ k, k ≠ w.heap.size + 1 → U.heap[k]? = W.heap[k]? := fun k hk => by rw [hU]; exact World.putObj_heap_other hk
    have hsU : U.heap.size = W.heap.size := by rw [hU]; simp
    rw [← hU]
    refine wpIn_mono (hbody _ pre x U hiU hlen) ?_
    rintro e a' W' ⟨rfl, hkq, hi'⟩
    have hl' := (hkq.block _ (heap_lt hlU) (fun e => by have := hY _ e; omega)).trans hlU
    have hd' := (hkq.block _ (heap_lt hdU) (fun e => by have := hY _ e; omega)).trans hdU
    have hend := run_endRound (P := Tryd.prog) none hl'
    have hfin : (W'.putObj (w.heap.size + 1) (.loop { { L .ready none with state := .busy } with state := .ready, pending := none })).heap[w.heap.size + 1]? = some (.loop (L .ready none)) := by
      rw [World.putObj_heap_same (heap_lt hl'), hL]
    refine ⟨_, _, hend, rfl, ⟨hI.putObj _ hi' (by omega) hl' rfl, hfin, (World.putObj_heap_other (by omega)).trans hd'⟩, ⟨?_, ?_, ?_, ?_, fun k hk hn => ?_⟩⟩
    · exact hkq.os.trans (by rw [hU]; rfl)
    · exact hkq.tape.trans (by rw [hU]; rfl)
    · exact hkq.output.trans (by rw [hU]; rfl)
    · have := hkq.size
      simp
      omega
    · by_cases e : k = w.heap.size + 1
      · subst e
        exact hfin.trans hl.symm
      · rw [World.putObj_heap_other e, hkq.block k (by omega) hn, hoU k e]
  · rintro e W ⟨⟨v, rfl⟩, xs, hS, hi, hl, hd⟩
    exact ⟨none, _, by have := run_endLoop (P := Tryd.prog) hl (by rw [hL]; simp); rw [hL] at this; exact this, hdone _ xs _ (Nat.le_refl _) hS (hI.putObj _ hi (by omega) hl rfl) ((World.putObj_heap_other (by omega)).trans hd)⟩
end Go.Proofs.YtjdbmjkidljhpaaDoor

namespace Go.Proofs.YtjdbmjkidljhpaaDoor
open Go.RowKit Go.Shelf
attribute [local go_sem] Oper.semAt_some
set_option linter.unusedVariables false
set_option linter.unusedSimpArgs false
set_option maxRecDepth 100000

theorem round_any_n {n m l l' : Nat} {f : FuncId} {tmps : Array Value} {assign body : Code} {w : World} {R : Ending → World → Prop} (h : RoundIn Fence.wide n Tryd.prog l f tmps assign body w R) : RoundIn (Fence.wide.inRound l') m Tryd.prog l f tmps assign body w R := ⟨h.1, fun c cs _ => h.2 c cs (fun d hd => by cases hd)⟩
/-- An entry, and a slice of as many bytes as it has. -/
abbrev Eb (es : List En) := { p : Em es × Value // ∃ ao c, p.2 = .slice ao p.1.1.xs.length c }
theorem bin_stay {B : Nat} {A C : World} {rw : Option Nat} {v : Value} {xs : List Int} (h : BIn A v xs) (hg : A.grownBy C rw) (hr : ∀ r, rw = some r → B ≤ r ∧ ∃ o : Obj, A.heap[r]? = some o ∧ o.isCells = false) : BIn C v xs := by
  refine h.kept2 (S := fun k => rw = some k) ⟨hg.os, hg.tape, hg.output, hg.size, fun k hk hn => hg.block k hk (fun e => hn e.symm)⟩ (fun h0 g hgb e => ?_)
  obtain ⟨i, u, hu⟩ := h.lt h0 g hgb
  obtain ⟨c, t, f, h2⟩ := cell_cells hu
  obtain ⟨_, o, h3, h4⟩ := hr g e
  rw [h2] at h3
  cases h3
  cases h4
/-- A range over a function whose first variable lies in a block of its own; what the rounds keep is told. -/
theorem rangeE {n : Nat} {α : Type} {g : Operand} {ps : Array Tmp} {assign body : Code} {Q : Exit → Act → World → Prop} {a : Act} {w : World}
    (h1 : 1 ≤ n) {gf : Nat} {lb : Array Value} (hg : a.eval g = .func (.func gf) #[] lb) (eg : ∀ args w, (callFunc gf args).run Tryd.prog w = .ok (.enter gf args) w)
    {encs : α → Array Value} {Z : Nat → Prop} {S Sp : List α → Prop} {N : Nat} {w0 : World} (hseq : SeqStopsK Fence.wide (n - 1) Tryd.prog gf lb encs (KeepsB Z) S Sp N w0) (hZ : ∀ k, Z k → k < w.heap.size) (hb0 : Below w0.heap.size w0 w) (hps : ∀ x, (encs x).size = ps.size)
    (I : List α → World → Prop) (hI : OwnFrom w.heap.size I) (h0 : I [] w) (hsz : ∀ pre W, I pre W → w.heap.size ≤ W.heap.size) (cs : α → Array Value) (tm : α → Nat → Array Value)
    (hassign : ∀ (l : Nat) (x : α) (W : World) (K : Act → World → Prop), K { tmps := tm x W.heap.size, defers := [] } (W.alloc (.cells (cs x) 28)) →
      assign.wpIn (Fence.wide.inRound l) (n - 1 - 1) Tryd.prog (Exit.then K (fun _ _ _ => False)) { tmps := (ps.zip (encs x)).foldl (fun t (p, v) => t.setIfInBounds p v) a.tmps, defers := [] } W)
    (hbody : ∀ (l : Nat) (pre : List α) (x : α) (B : Nat) (W : World), w.heap.size ≤ l → I pre W → w.heap.size ≤ B → W.heap[B]? = some (.cells (cs x) 28 (0, 0)) → pre.length < N → body.wpIn (Fence.wide.inRound l) (n - 1 - 1) Tryd.prog (fun e _ W' => e = .normal ∧ KeepsFrom w.heap.size W W' ∧ KeepsB Z W W' ∧ I (pre ++ [x]) W') { tmps := tm x B, defers := [] } W)
    (hdone : ∀ (D : Nat) (xs : List α) (W : World), w.heap.size ≤ D → S xs → I xs W → W.heap[D]? = some (.deferred (some [])) → Q .normal { a with defers := { target := .collected D, args := #[] } :: a.defers } W) :
    (Code.rangeFunc g ps assign body).wpIn Fence.wide n Tryd.prog Q a w :=
  wpIn_rangeFunc_ownH rfl h1 hg trivial eg hseq (fun h k => h.trans k) (fun W l o o' hl _ _ _ => ⟨by simp, fun k hk _ => World.putObj_heap_other (by have := hZ k hk; omega)⟩) hb0 hps I (fun _ _ _ => False) hI (fun _ _ _ _ _ h _ _ => h) h0
    (fun x a' W => ∃ B, w.heap.size ≤ B ∧ a' = { tmps := tm x B, defers := [] } ∧ W.heap[B]? = some (.cells (cs x) 28 (0, 0)))
    (fun x a' _ W W' row h hg hr => by
      obtain ⟨B, hB, ha, hb⟩ := h
      refine ⟨B, hB, ha, (hg.block B (heap_lt hb) (fun e => ?_)).trans hb⟩
      obtain ⟨_, o, h1, h2⟩ := hr B e.symm
      rw [hb] at h1
      cases h1
      cases h2)
    (fun l pre x W K hi hK => hassign l x W K (hK _ _ ((KeepsOthers.alloc W _).from _) (KeepsB.of_kept ((Kept.refl _ W).alloc _)) (hI.alloc _ hi) ⟨W.heap.size, hsz pre W hi, rfl, alloc_new _ _ rfl⟩))
    (fun l pre x a' W hl _ hi ha hlt => by
      obtain ⟨B, hB, rfl, hb⟩ := ha
      refine wpIn_mono (hbody l pre x B W hl hi hB hb hlt) ?_
      rintro e a3 W3 ⟨rfl, h1, h2, h3⟩
      exact ⟨h1, h2, h3⟩) hdone (fun _ _ _ _ _ _ h _ => h.elim)

set_option maxHeartbeats 8000000 in
theorem all1_seq (Y Z : Nat → Prop) (hYZ : ∀ k, Z k → ¬ Y k) (n : Nat) (hn : 4 ≤ n) (B0 B1 B2 r clock : Nat) (es : List En) (ds : List Dg) (ao : Option Addr) (cap : Nat) (w : World) (hR : RowAt w B1 B2 r clock es ds ao cap) (z1 : Z B1) (z2 : Z B2) (z3 : Z r) (z4 : ∀ g o, ao = some ⟨g, o, none⟩ → Z g) (hZ : ∀ k, Z k → k < w.heap.size) (hdl : ds.length ≤ 1000000000)
    (hB0 : B0 < w.heap.size) (hf : w.cell? ⟨B0, 0, none⟩ = some (.func (.func 53) #[] #[.pointer (some ⟨B1, 0, none⟩), .pointer (some ⟨B2, 0, none⟩)])) (hblob : ∀ e ∈ es, BIn w e.bv e.xs ∧ e.xs.length ≤ 1048576 ∧ (e.xs ≠ [] → ∀ g, e.bv.ownBlock = some g → Z g)) :
    SeqOwn n 43 #[.pointer (some ⟨B0, 0, none⟩)] (fun x : Eb es => #[dv x.1.1.1.k, x.1.2]) Y (fun ys => ys.map (·.1.1.1.k) = ds.map (·.1)) ds.length w := fun l J W hW hYW hJ hY h0 => by
  have hfW : W.cell? ⟨B0, 0, none⟩ = some (.func (.func 53) #[] #[.pointer (some ⟨B1, 0, none⟩), .pointer (some ⟨B2, 0, none⟩)]) := (hW.cell (p := ⟨B0, 0, none⟩) hB0).trans hf
  have HBL : Hid (∀ e ∈ es, BIn W e.bv e.xs) := fun e he => (hblob e he).1.kept2 (S := fun k => w.heap.size ≤ k) ⟨hW.os, hW.tape, hW.output, hW.size, fun k hk hn => hW.block k (by omega)⟩ (fun h0 g hg => by have := hZ g ((hblob e he).2.2 h0 g hg); omega)
  have HBD := hid_of hblob
  have HR : Hid (∀ W', Below w.heap.size w W' → SeqStopsK Fence.wide (n - 1) Tryd.prog 53 #[.pointer (some ⟨B1, 0, none⟩), .pointer (some ⟨B2, 0, none⟩)] (fun x : Em es => #[dv x.1.k, x.1.bv]) (KeepsB Z) (fun ys => ys.map (·.1.k) = ds.map (·.1)) (fun _ => True) ds.length w) := fun _ _ => row_stops Z (n - 1) (by omega) B1 B2 r clock es ds ao cap w hR z1 z2 z3 z4 hZ hdl
  have HY := hid_of hY
  have HLEN : Hid (∀ x : Em es, x.1.k.length = 32) := fun x => (hR.len x.1 x.2).1
  have HJ := hid_of hJ
  have hJk : ∀ pre A B, J pre A → Kept (fun _ => False) A B → J pre B := fun pre A B h k => hJ pre A B none h k.grow (fun r e => by cases e)
  have HJK := hid_of hJk
  have H0 := hid_of h0
  have HW := hid_of hW
  have hWs := hW.size
  have HZ := hid_of hZ
  have hfV : (W.alloc (.cells #[.func (.yield l) #[] #[]] 80)).cell? ⟨B0, 0, none⟩ = some (.func (.func 53) #[] #[.pointer (some ⟨B1, 0, none⟩), .pointer (some ⟨B2, 0, none⟩)]) := ((Kept.refl (fun _ => False) W).alloc _).cell hfW (fun f => f)
  clear hf hblob hY hJ hJk h0 hW hR z1 z2 z3 z4 hB0 hZ
  refine callsIn_of_wp_marks Tryd.func43 rfl trivial ?_ rfl
  simp only [Tryd.ntmps43, List.size_toArray, List.length_cons, List.length_nil, Nat.reduceAdd, Nat.reduceSub, Array.replicate_succ, Array.replicate_zero, List.push_toArray, List.append_toArray, List.nil_append, List.cons_append]
  gi_wp2
  have b0 := Boxed.new W 80 (.func (.yield l) #[] #[])
  have hk0 : Kept (fun _ => False) W (W.alloc (.cells #[.func (.yield l) #[] #[]] 80)) := (Kept.refl _ W).alloc _
  obtain ⟨V, hV⟩ : ∃ V, W.alloc (.cells #[.func (.yield l) #[] #[]] 80) = V := ⟨_, rfl⟩
  have hsV : V.heap.size = W.heap.size + 1 := by rw [← hV]; simp
  rw [hV] at b0 hk0 hfV ⊢
  clear hV
  have HK0 := hid_of hk0
  have HB0 := hid_of b0
  clear hk0 b0
  refine rangeE (by omega) (gf := 53) (lb := #[.pointer (some ⟨B1, 0, none⟩), .pointer (some ⟨B2, 0, none⟩)]) rfl (enters_of Tryd.func53 (by kernel_rfl) rfl)
    (HR.out W HW.out) (fun k hk => by have := HZ.out k hk; omega) (HW.out.trans (HK0.out.below hWs (fun _ f => f.elim))) (fun x => by rfl)
    (fun pre W2 => ∃ pre' : List (Eb es), pre'.map (·.1.1) = pre ∧ J pre' W2 ∧ Boxed W2 W.heap.size 80 (.func (.yield l) #[] #[]) ∧ (∀ e ∈ es, BIn W2 e.bv e.xs) ∧ W.heap.size + 1 ≤ W2.heap.size)
    ?hI ?h0 ?hsz (fun x => (x.1.k.map (Value.int .u8)).toArray)
    (fun x B => #[.func (.yield l) #[] #[], .pointer (some ⟨B0, 0, none⟩), .pointer (some ⟨W.heap.size, 0, none⟩), .pointer (some ⟨B, 0, none⟩), x.1.bv, .func (.func 53) #[] #[.pointer (some ⟨B1, 0, none⟩), .pointer (some ⟨B2, 0, none⟩)], .agg (x.1.k.map (Value.int .u8)).toArray, x.1.bv, undef, undef, undef, undef, undef, undef])
    ?assign ?body ?done
  case hI =>
    rintro pre A C rw ⟨pre', hp, hj, hb, hbl, hs⟩ hg hr
    exact ⟨pre', hp, HJ.out _ _ _ _ hj hg (fun r e => ⟨by have := (hr r e).1; omega, (hr r e).2⟩), box_stay hb hg hr, fun e he => bin_stay (hbl e he) hg hr, Nat.le_trans hs hg.size⟩
  case h0 => exact ⟨[], rfl, HJK.out _ _ _ H0.out HK0.out, HB0.out, fun e he => (HBL.out e he).kept2 HK0.out (fun _ _ _ f => f), by omega⟩
  case hsz => rintro pre W2 ⟨_, _, _, _, _, h⟩; omega
  case assign =>
    intro l' x W2 K hK
    have hkl := HLEN.out x
    have hds := size28_of x.1.k hkl
    have honed := oneCells .u8 x.1.k
    have HOD : Hid (32 = (x.1.k.map (Value.int .u8)).toArray.size) := by show 32 = _; simp [hkl]
    gi_wp2_with (refine inList_store_row rfl 28 _ _ rfl W2.heap.size (x.1.k.map (Value.int .u8)).toArray rfl rfl 28 _ (alloc_new _ _ rfl) hds HOD.out honed ?_; rw [setRow_new _ _ _ _ rfl])
    exact hK
  case body =>
    rintro l' pre x B W2 hl ⟨pre', hp, hj, hb, hbl, hs⟩ hBge hBk hlt
    have hds := size28_of x.1.k (HLEN.out x)
    have HCL : Hid (∀ A, Kept (fun _ => False) W2 A → Calls Tryd.prog 35 #[x.1.bv] A fun e w' => ∃ v', e = .returned v' ∧ BIn w' v' x.1.xs ∧ (∀ g, v'.ownBlock = some g → A.heap.size ≤ g ∧ g < w'.heap.size) ∧ Kept (fun _ => False) A w') := fun A hA => clone_any _ _ A ((hbl x.1 x.2).kept2 hA (fun _ _ _ f => f)) (by have := (HBD.out x.1 x.2).2.1; omega)
    have HCB := hid_of hb.cell
    have HBX := hid_of hb
    have HBK := hid_of hBk
    have HJ2 := hid_of hj
    have HBL2 := hid_of hbl
    have HLT : Hid (pre'.length < ds.length) := by
      show _ < _
      rw [← hp, List.length_map] at hlt
      exact hlt
    have HP := hid_of hp
    have HK3 : Hid (Kept (fun _ => False) W2 W2.drew) := (Kept.refl _ W2).drew
    have HB3 : Hid (W2.drew.heap[B]? = some (.cells (x.1.k.map (Value.int .u8)).toArray 28 (0, 0))) := hBk
    have hc3 : W2.drew.cell? ⟨W.heap.size, 0, none⟩ = some (.func (.yield l) #[] #[]) := hb.cell
    have fin : Hid (∀ (w4 W5 : World) (p : Eb es), p.1.1 = x → Kept (fun _ => False) W2 w4 → J (pre' ++ [p]) W5 → Kept Y w4 W5 → KeepsFrom V.heap.size W2 W5 ∧ KeepsB Z W2 W5 ∧ ∃ pre', pre'.map (·.1.1) = pre ++ [x] ∧ J pre' W5 ∧ Boxed W5 W.heap.size 80 (.func (.yield l) #[] #[]) ∧ (∀ e ∈ es, BIn W5 e.bv e.xs) ∧ W.heap.size + 1 ≤ W5.heap.size) := fun w4 W5 p hpx hk4 hJ5 hkq => by
      have hs4 := hk4.size
      refine ⟨(KeepsFrom.of_kept hk4 (fun _ _ f => f)).trans (KeepsFrom.of_kept hkq (fun k hB e => by have := hYW k e; omega)), (KeepsB.of_kept hk4).trans (KeepsB.of_kepts hkq hYZ), pre' ++ [p], by rw [List.map_append, HP.out, ← hpx]; rfl, hJ5, ?_, fun e he => ?_, by have := hkq.size; omega⟩
      · exact (hkq.block _ (by omega) (fun e => by have := hYW _ e; omega)).trans ((hk4.block _ (by omega) (fun f => f)).trans HBX.out)
      · exact ((HBL2.out e he).kept2 hk4 (fun _ _ _ f => f)).kept2 hkq (fun h0 g hg => hYZ g ((HBD.out e he).2.2 h0 g hg))
    clear hp hj hb hbl hBk hlt
    gi_wp2
    refine wpIn_region_any (by kernel_rfl) ?_
    change wpAnyIn _ _ _ _ _ _ _ _ _ W2.drew
    generalize W2.drew = W3 at *
    refine wpAnyIn_ready (rs := [0, 1, 2]) (by kernel_rfl) (by simp) ?_
    refine AllReadyIn.cons rfl (fun K hK => ?_) ?_
    · go_simp
      refine hK _ _ ?_
      clear hK K
      try simp only [Act.put, List.getElem_toArray, List.getElem_cons_zero, List.getElem_cons_succ, List.setIfInBounds_toArray, List.set_cons_zero, List.set_cons_succ]
      refine wpAnyIn_ready (rs := [1, 2]) (by kernel_rfl) (by simp) ?_
      refine AllReadyIn.cons rfl (fun K hK => ?_) ?_
      · refine stIn_load28 rfl _ rfl B rfl 28 (x.1.k.map (Value.int .u8)).toArray (0, 0) HB3.out hds ?_
        refine hK _ _ ?_
        clear hK K
        try simp only [Act.put, List.getElem_toArray, List.getElem_cons_zero, List.getElem_cons_succ, List.setIfInBounds_toArray, List.set_cons_zero, List.set_cons_succ]
        refine wpAnyIn_ready (rs := [2]) (by kernel_rfl) (by simp) ?_
        refine AllReadyIn.cons rfl (fun K hK => ?_) AllReadyIn.nil
        go_simp
        refine hK _ _ ?_
        clear hK K
        try simp only [Act.put, List.getElem_toArray, List.getElem_cons_zero, List.getElem_cons_succ, List.setIfInBounds_toArray, List.set_cons_zero, List.set_cons_succ]
        refine wpAnyIn_ready (rs := [3]) (by kernel_rfl) (by simp) ?_
        refine AllReadyIn.cons rfl (fun K hK => ?_) AllReadyIn.nil
        go_simp
        refine ⟨trivial, (fun h => by cases h), (CallsIn.inRound l' (callsIn_wide.2 (HCL.out _ HK3.out))).mono ?_⟩
        rintro e w4 ⟨v', rfl, hbv, _, hk4⟩
        obtain ⟨ao', c', hvv, _, _⟩ := id hbv
        subst hvv
        have hK24 := HK3.out.trans hk4
        have HK24 := hid_of hK24
        have HB4 := hid_of ((hK24.block _ (heap_lt HBK.out) (fun f => f)).trans HBK.out)
        have hc4 : w4.cell? ⟨W.heap.size, 0, none⟩ = some (.func (.yield l) #[] #[]) := hK24.cell HCB.out (fun f => f)
        clear hbv hk4 hK24
        refine hK _ _ ?_
        clear hK K
        try simp only [Act.put, List.getElem_toArray, List.getElem_cons_zero, List.getElem_cons_succ, List.setIfInBounds_toArray, List.set_cons_zero, List.set_cons_succ]
        refine wpAnyIn_ready (rs := [4]) (by kernel_rfl) (by simp) ?_
        refine AllReadyIn.cons rfl (fun K hK => ?_) AllReadyIn.nil
        obtain ⟨fn, tmps, assign, body, hy, hRn⟩ := HY.out pre' ⟨(x, .slice ao' x.1.xs.length c'), ⟨ao', c', rfl⟩⟩ w4 (HJK.out _ _ _ HJ2.out HK24.out) HLT.out
        unfold dv at hy
        go_simp
        refine ⟨(fun h => by cases h), (round_any_n hRn).mono ?_⟩
        rintro e5 W5 ⟨rfl, hJ5, hk5⟩
        have HJ5 := hid_of hJ5
        have HKQ := hid_of hk5
        clear hJ5 hk5 hRn hy
        refine hK _ _ ?_
        clear hK K
        try simp only [Act.put, List.getElem_toArray, List.getElem_cons_zero, List.getElem_cons_succ, List.setIfInBounds_toArray, List.set_cons_zero, List.set_cons_succ]
        refine wpAnyIn_ready (rs := [5]) (by kernel_rfl) (by simp) ?_
        refine AllReadyIn.cons rfl (fun K hK => ?_) AllReadyIn.nil
        go_simp
        refine hK _ _ ?_
        clear hK K
        try simp only [Act.put, List.getElem_toArray, List.getElem_cons_zero, List.getElem_cons_succ, List.setIfInBounds_toArray, List.set_cons_zero, List.set_cons_succ]
        refine wpAnyIn_done (by kernel_rfl) ?_ _
        gi_wp2
        (have h9 := fin.out _ _ _ rfl HK24.out HJ5.out HKQ.out; rw [hsV] at h9; exact h9)
      refine AllReadyIn.cons rfl (fun K hK => ?_) AllReadyIn.nil
      go_simp
      refine hK _ _ ?_
      clear hK K
      try simp only [Act.put, List.getElem_toArray, List.getElem_cons_zero, List.getElem_cons_succ, List.setIfInBounds_toArray, List.set_cons_zero, List.set_cons_succ]
      refine wpAnyIn_ready (rs := [1, 3]) (by kernel_rfl) (by simp) ?_
      refine AllReadyIn.cons rfl (fun K hK => ?_) ?_
      · refine stIn_load28 rfl _ rfl B rfl 28 (x.1.k.map (Value.int .u8)).toArray (0, 0) HB3.out hds ?_
        refine hK _ _ ?_
        clear hK K
        try simp only [Act.put, List.getElem_toArray, List.getElem_cons_zero, List.getElem_cons_succ, List.setIfInBounds_toArray, List.set_cons_zero, List.set_cons_succ]
        refine wpAnyIn_ready (rs := [3]) (by kernel_rfl) (by simp) ?_
        refine AllReadyIn.cons rfl (fun K hK => ?_) AllReadyIn.nil
        go_simp
        refine ⟨trivial, (fun h => by cases h), (CallsIn.inRound l' (callsIn_wide.2 (HCL.out _ HK3.out))).mono ?_⟩
        rintro e w4 ⟨v', rfl, hbv, _, hk4⟩
        obtain ⟨ao', c', hvv, _, _⟩ := id hbv
        subst hvv
        have hK24 := HK3.out.trans hk4
        have HK24 := hid_of hK24
        have HB4 := hid_of ((hK24.block _ (heap_lt HBK.out) (fun f => f)).trans HBK.out)
        have hc4 : w4.cell? ⟨W.heap.size, 0, none⟩ = some (.func (.yield l) #[] #[]) := hK24.cell HCB.out (fun f => f)
        clear hbv hk4 hK24
        refine hK _ _ ?_
        clear hK K
        try simp only [Act.put, List.getElem_toArray, List.getElem_cons_zero, List.getElem_cons_succ, List.setIfInBounds_toArray, List.set_cons_zero, List.set_cons_succ]
        refine wpAnyIn_ready (rs := [4]) (by kernel_rfl) (by simp) ?_
        refine AllReadyIn.cons rfl (fun K hK => ?_) AllReadyIn.nil
        obtain ⟨fn, tmps, assign, body, hy, hRn⟩ := HY.out pre' ⟨(x, .slice ao' x.1.xs.length c'), ⟨ao', c', rfl⟩⟩ w4 (HJK.out _ _ _ HJ2.out HK24.out) HLT.out
        unfold dv at hy
        go_simp
        refine ⟨(fun h => by cases h), (round_any_n hRn).mono ?_⟩
        rintro e5 W5 ⟨rfl, hJ5, hk5⟩
        have HJ5 := hid_of hJ5
        have HKQ := hid_of hk5
        clear hJ5 hk5 hRn hy
        refine hK _ _ ?_
        clear hK K
        try simp only [Act.put, List.getElem_toArray, List.getElem_cons_zero, List.getElem_cons_succ, List.setIfInBounds_toArray, List.set_cons_zero, List.set_cons_succ]
        refine wpAnyIn_ready (rs := [5]) (by kernel_rfl) (by simp) ?_
        refine AllReadyIn.cons rfl (fun K hK => ?_) AllReadyIn.nil
        go_simp
        refine hK _ _ ?_
        clear hK K
        try simp only [Act.put, List.getElem_toArray, List.getElem_cons_zero, List.getElem_cons_succ, List.setIfInBounds_toArray, List.set_cons_zero, List.set_cons_succ]
        refine wpAnyIn_done (by kernel_rfl) ?_ _
        gi_wp2
        (have h9 := fin.out _ _ _ rfl HK24.out HJ5.out HKQ.out; rw [hsV] at h9; exact h9)
      refine AllReadyIn.cons rfl (fun K hK => ?_) AllReadyIn.nil
      go_simp
      refine ⟨trivial, (fun h => by cases h), (CallsIn.inRound l' (callsIn_wide.2 (HCL.out _ HK3.out))).mono ?_⟩
      rintro e w4 ⟨v', rfl, hbv, _, hk4⟩
      obtain ⟨ao', c', hvv, _, _⟩ := id hbv
      subst hvv
      have hK24 := HK3.out.trans hk4
      have HK24 := hid_of hK24
      have HB4 := hid_of ((hK24.block _ (heap_lt HBK.out) (fun f => f)).trans HBK.out)
      have hc4 : w4.cell? ⟨W.heap.size, 0, none⟩ = some (.func (.yield l) #[] #[]) := hK24.cell HCB.out (fun f => f)
      clear hbv hk4 hK24
      refine hK _ _ ?_
      clear hK K
      try simp only [Act.put, List.getElem_toArray, List.getElem_cons_zero, List.getElem_cons_succ, List.setIfInBounds_toArray, List.set_cons_zero, List.set_cons_succ]
      refine wpAnyIn_ready (rs := [1]) (by kernel_rfl) (by simp) ?_
      refine AllReadyIn.cons rfl (fun K hK => ?_) AllReadyIn.nil
      refine stIn_load28 rfl _ rfl B rfl 28 (x.1.k.map (Value.int .u8)).toArray (0, 0) HB4.out hds ?_
      refine hK _ _ ?_
      clear hK K
      try simp only [Act.put, List.getElem_toArray, List.getElem_cons_zero, List.getElem_cons_succ, List.setIfInBounds_toArray, List.set_cons_zero, List.set_cons_succ]
      refine wpAnyIn_ready (rs := [4]) (by kernel_rfl) (by simp) ?_
      refine AllReadyIn.cons rfl (fun K hK => ?_) AllReadyIn.nil
      obtain ⟨fn, tmps, assign, body, hy, hRn⟩ := HY.out pre' ⟨(x, .slice ao' x.1.xs.length c'), ⟨ao', c', rfl⟩⟩ w4 (HJK.out _ _ _ HJ2.out HK24.out) HLT.out
      unfold dv at hy
      go_simp
      refine ⟨(fun h => by cases h), (round_any_n hRn).mono ?_⟩
      rintro e5 W5 ⟨rfl, hJ5, hk5⟩
      have HJ5 := hid_of hJ5
      have HKQ := hid_of hk5
      clear hJ5 hk5 hRn hy
      refine hK _ _ ?_
      clear hK K
      try simp only [Act.put, List.getElem_toArray, List.getElem_cons_zero, List.getElem_cons_succ, List.setIfInBounds_toArray, List.set_cons_zero, List.set_cons_succ]
      refine wpAnyIn_ready (rs := [5]) (by kernel_rfl) (by simp) ?_
      refine AllReadyIn.cons rfl (fun K hK => ?_) AllReadyIn.nil
      go_simp
      refine hK _ _ ?_
      clear hK K
      try simp only [Act.put, List.getElem_toArray, List.getElem_cons_zero, List.getElem_cons_succ, List.setIfInBounds_toArray, List.set_cons_zero, List.set_cons_succ]
      refine wpAnyIn_done (by kernel_rfl) ?_ _
      gi_wp2
      (have h9 := fin.out _ _ _ rfl HK24.out HJ5.out HKQ.out; rw [hsV] at h9; exact h9)
    refine AllReadyIn.cons rfl (fun K hK => ?_) ?_
    · refine stIn_load28 rfl _ rfl B rfl 28 (x.1.k.map (Value.int .u8)).toArray (0, 0) HB3.out hds ?_
      refine hK _ _ ?_
      clear hK K
      try simp only [Act.put, List.getElem_toArray, List.getElem_cons_zero, List.getElem_cons_succ, List.setIfInBounds_toArray, List.set_cons_zero, List.set_cons_succ]
      refine wpAnyIn_ready (rs := [0, 2]) (by kernel_rfl) (by simp) ?_
      refine AllReadyIn.cons rfl (fun K hK => ?_) ?_
      · go_simp
        refine hK _ _ ?_
        clear hK K
        try simp only [Act.put, List.getElem_toArray, List.getElem_cons_zero, List.getElem_cons_succ, List.setIfInBounds_toArray, List.set_cons_zero, List.set_cons_succ]
        refine wpAnyIn_ready (rs := [2]) (by kernel_rfl) (by simp) ?_
        refine AllReadyIn.cons rfl (fun K hK => ?_) AllReadyIn.nil
        go_simp
        refine hK _ _ ?_
        clear hK K
        try simp only [Act.put, List.getElem_toArray, List.getElem_cons_zero, List.getElem_cons_succ, List.setIfInBounds_toArray, List.set_cons_zero, List.set_cons_succ]
        refine wpAnyIn_ready (rs := [3]) (by kernel_rfl) (by simp) ?_
        refine AllReadyIn.cons rfl (fun K hK => ?_) AllReadyIn.nil
        go_simp
        refine ⟨trivial, (fun h => by cases h), (CallsIn.inRound l' (callsIn_wide.2 (HCL.out _ HK3.out))).mono ?_⟩
        rintro e w4 ⟨v', rfl, hbv, _, hk4⟩
        obtain ⟨ao', c', hvv, _, _⟩ := id hbv
        subst hvv
        have hK24 := HK3.out.trans hk4
        have HK24 := hid_of hK24
        have HB4 := hid_of ((hK24.block _ (heap_lt HBK.out) (fun f => f)).trans HBK.out)
        have hc4 : w4.cell? ⟨W.heap.size, 0, none⟩ = some (.func (.yield l) #[] #[]) := hK24.cell HCB.out (fun f => f)
        clear hbv hk4 hK24
        refine hK _ _ ?_
        clear hK K
        try simp only [Act.put, List.getElem_toArray, List.getElem_cons_zero, List.getElem_cons_succ, List.setIfInBounds_toArray, List.set_cons_zero, List.set_cons_succ]
        refine wpAnyIn_ready (rs := [4]) (by kernel_rfl) (by simp) ?_
        refine AllReadyIn.cons rfl (fun K hK => ?_) AllReadyIn.nil
        obtain ⟨fn, tmps, assign, body, hy, hRn⟩ := HY.out pre' ⟨(x, .slice ao' x.1.xs.length c'), ⟨ao', c', rfl⟩⟩ w4 (HJK.out _ _ _ HJ2.out HK24.out) HLT.out
        unfold dv at hy
        go_simp
        refine ⟨(fun h => by cases h), (round_any_n hRn).mono ?_⟩
        rintro e5 W5 ⟨rfl, hJ5, hk5⟩
        have HJ5 := hid_of hJ5
        have HKQ := hid_of hk5
        clear hJ5 hk5 hRn hy
        refine hK _ _ ?_
        clear hK K
        try simp only [Act.put, List.getElem_toArray, List.getElem_cons_zero, List.getElem_cons_succ, List.setIfInBounds_toArray, List.set_cons_zero, List.set_cons_succ]
        refine wpAnyIn_ready (rs := [5]) (by kernel_rfl) (by simp) ?_
        refine AllReadyIn.cons rfl (fun K hK => ?_) AllReadyIn.nil
        go_simp
        refine hK _ _ ?_
        clear hK K
        try simp only [Act.put, List.getElem_toArray, List.getElem_cons_zero, List.getElem_cons_succ, List.setIfInBounds_toArray, List.set_cons_zero, List.set_cons_succ]
        refine wpAnyIn_done (by kernel_rfl) ?_ _
        gi_wp2
        (have h9 := fin.out _ _ _ rfl HK24.out HJ5.out HKQ.out; rw [hsV] at h9; exact h9)
      refine AllReadyIn.cons rfl (fun K hK => ?_) AllReadyIn.nil
      go_simp
      refine hK _ _ ?_
      clear hK K
      try simp only [Act.put, List.getElem_toArray, List.getElem_cons_zero, List.getElem_cons_succ, List.setIfInBounds_toArray, List.set_cons_zero, List.set_cons_succ]
      refine wpAnyIn_ready (rs := [0, 3]) (by kernel_rfl) (by simp) ?_
      refine AllReadyIn.cons rfl (fun K hK => ?_) ?_
      · go_simp
        refine hK _ _ ?_
        clear hK K
        try simp only [Act.put, List.getElem_toArray, List.getElem_cons_zero, List.getElem_cons_succ, List.setIfInBounds_toArray, List.set_cons_zero, List.set_cons_succ]
        refine wpAnyIn_ready (rs := [3]) (by kernel_rfl) (by simp) ?_
        refine AllReadyIn.cons rfl (fun K hK => ?_) AllReadyIn.nil
        go_simp
        refine ⟨trivial, (fun h => by cases h), (CallsIn.inRound l' (callsIn_wide.2 (HCL.out _ HK3.out))).mono ?_⟩
        rintro e w4 ⟨v', rfl, hbv, _, hk4⟩
        obtain ⟨ao', c', hvv, _, _⟩ := id hbv
        subst hvv
        have hK24 := HK3.out.trans hk4
        have HK24 := hid_of hK24
        have HB4 := hid_of ((hK24.block _ (heap_lt HBK.out) (fun f => f)).trans HBK.out)
        have hc4 : w4.cell? ⟨W.heap.size, 0, none⟩ = some (.func (.yield l) #[] #[]) := hK24.cell HCB.out (fun f => f)
        clear hbv hk4 hK24
        refine hK _ _ ?_
        clear hK K
        try simp only [Act.put, List.getElem_toArray, List.getElem_cons_zero, List.getElem_cons_succ, List.setIfInBounds_toArray, List.set_cons_zero, List.set_cons_succ]
        refine wpAnyIn_ready (rs := [4]) (by kernel_rfl) (by simp) ?_
        refine AllReadyIn.cons rfl (fun K hK => ?_) AllReadyIn.nil
        obtain ⟨fn, tmps, assign, body, hy, hRn⟩ := HY.out pre' ⟨(x, .slice ao' x.1.xs.length c'), ⟨ao', c', rfl⟩⟩ w4 (HJK.out _ _ _ HJ2.out HK24.out) HLT.out
        unfold dv at hy
        go_simp
        refine ⟨(fun h => by cases h), (round_any_n hRn).mono ?_⟩
        rintro e5 W5 ⟨rfl, hJ5, hk5⟩
        have HJ5 := hid_of hJ5
        have HKQ := hid_of hk5
        clear hJ5 hk5 hRn hy
        refine hK _ _ ?_
        clear hK K
        try simp only [Act.put, List.getElem_toArray, List.getElem_cons_zero, List.getElem_cons_succ, List.setIfInBounds_toArray, List.set_cons_zero, List.set_cons_succ]
        refine wpAnyIn_ready (rs := [5]) (by kernel_rfl) (by simp) ?_
        refine AllReadyIn.cons rfl (fun K hK => ?_) AllReadyIn.nil
        go_simp
        refine hK _ _ ?_
        clear hK K
        try simp only [Act.put, List.getElem_toArray, List.getElem_cons_zero, List.getElem_cons_succ, List.setIfInBounds_toArray, List.set_cons_zero, List.set_cons_succ]
        refine wpAnyIn_done (by kernel_rfl) ?_ _
        gi_wp2
        (have h9 := fin.out _ _ _ rfl HK24.out HJ5.out HKQ.out; rw [hsV] at h9; exact h9)
      refine AllReadyIn.cons rfl (fun K hK => ?_) AllReadyIn.nil
      go_simp
      refine ⟨trivial, (fun h => by cases h), (CallsIn.inRound l' (callsIn_wide.2 (HCL.out _ HK3.out))).mono ?_⟩
      rintro e w4 ⟨v', rfl, hbv, _, hk4⟩
      obtain ⟨ao', c', hvv, _, _⟩ := id hbv
      subst hvv
      have hK24 := HK3.out.trans hk4
      have HK24 := hid_of hK24
      have HB4 := hid_of ((hK24.block _ (heap_lt HBK.out) (fun f => f)).trans HBK.out)
      have hc4 : w4.cell? ⟨W.heap.size, 0, none⟩ = some (.func (.yield l) #[] #[]) := hK24.cell HCB.out (fun f => f)
      clear hbv hk4 hK24
      refine hK _ _ ?_
      clear hK K
      try simp only [Act.put, List.getElem_toArray, List.getElem_cons_zero, List.getElem_cons_succ, List.setIfInBounds_toArray, List.set_cons_zero, List.set_cons_succ]
      refine wpAnyIn_ready (rs := [0]) (by kernel_rfl) (by simp) ?_
      refine AllReadyIn.cons rfl (fun K hK => ?_) AllReadyIn.nil
      go_simp
      refine hK _ _ ?_
      clear hK K
      try simp only [Act.put, List.getElem_toArray, List.getElem_cons_zero, List.getElem_cons_succ, List.setIfInBounds_toArray, List.set_cons_zero, List.set_cons_succ]
      refine wpAnyIn_ready (rs := [4]) (by kernel_rfl) (by simp) ?_
      refine AllReadyIn.cons rfl (fun K hK => ?_) AllReadyIn.nil
      obtain ⟨fn, tmps, assign, body, hy, hRn⟩ := HY.out pre' ⟨(x, .slice ao' x.1.xs.length c'), ⟨ao', c', rfl⟩⟩ w4 (HJK.out _ _ _ HJ2.out HK24.out) HLT.out
      unfold dv at hy
      go_simp
      refine ⟨(fun h => by cases h), (round_any_n hRn).mono ?_⟩
      rintro e5 W5 ⟨rfl, hJ5, hk5⟩
      have HJ5 := hid_of hJ5
      have HKQ := hid_of hk5
      clear hJ5 hk5 hRn hy
      refine hK _ _ ?_
      clear hK K
      try simp only [Act.put, List.getElem_toArray, List.getElem_cons_zero, List.getElem_cons_succ, List.setIfInBounds_toArray, List.set_cons_zero, List.set_cons_succ]
      refine wpAnyIn_ready (rs := [5]) (by kernel_rfl) (by simp) ?_
      refine AllReadyIn.cons rfl (fun K hK => ?_) AllReadyIn.nil
      go_simp
      refine hK _ _ ?_
      clear hK K
      try simp only [Act.put, List.getElem_toArray, List.getElem_cons_zero, List.getElem_cons_succ, List.setIfInBounds_toArray, List.set_cons_zero, List.set_cons_succ]
      refine wpAnyIn_done (by kernel_rfl) ?_ _
      gi_wp2
      (have h9 := fin.out _ _ _ rfl HK24.out HJ5.out HKQ.out; rw [hsV] at h9; exact h9)
    refine AllReadyIn.cons rfl (fun K hK => ?_) AllReadyIn.nil
    go_simp
    refine hK _ _ ?_
    clear hK K
    try simp only [Act.put, List.getElem_toArray, List.getElem_cons_zero, List.getElem_cons_succ, List.setIfInBounds_toArray, List.set_cons_zero, List.set_cons_succ]
    refine wpAnyIn_ready (rs := [0, 1, 3]) (by kernel_rfl) (by simp) ?_
    refine AllReadyIn.cons rfl (fun K hK => ?_) ?_
    · go_simp
      refine hK _ _ ?_
      clear hK K
      try simp only [Act.put, List.getElem_toArray, List.getElem_cons_zero, List.getElem_cons_succ, List.setIfInBounds_toArray, List.set_cons_zero, List.set_cons_succ]
      refine wpAnyIn_ready (rs := [1, 3]) (by kernel_rfl) (by simp) ?_
      refine AllReadyIn.cons rfl (fun K hK => ?_) ?_
      · refine stIn_load28 rfl _ rfl B rfl 28 (x.1.k.map (Value.int .u8)).toArray (0, 0) HB3.out hds ?_
        refine hK _ _ ?_
        clear hK K
        try simp only [Act.put, List.getElem_toArray, List.getElem_cons_zero, List.getElem_cons_succ, List.setIfInBounds_toArray, List.set_cons_zero, List.set_cons_succ]
        refine wpAnyIn_ready (rs := [3]) (by kernel_rfl) (by simp) ?_
        refine AllReadyIn.cons rfl (fun K hK => ?_) AllReadyIn.nil
        go_simp
        refine ⟨trivial, (fun h => by cases h), (CallsIn.inRound l' (callsIn_wide.2 (HCL.out _ HK3.out))).mono ?_⟩
        rintro e w4 ⟨v', rfl, hbv, _, hk4⟩
        obtain ⟨ao', c', hvv, _, _⟩ := id hbv
        subst hvv
        have hK24 := HK3.out.trans hk4
        have HK24 := hid_of hK24
        have HB4 := hid_of ((hK24.block _ (heap_lt HBK.out) (fun f => f)).trans HBK.out)
        have hc4 : w4.cell? ⟨W.heap.size, 0, none⟩ = some (.func (.yield l) #[] #[]) := hK24.cell HCB.out (fun f => f)
        clear hbv hk4 hK24
        refine hK _ _ ?_
        clear hK K
        try simp only [Act.put, List.getElem_toArray, List.getElem_cons_zero, List.getElem_cons_succ, List.setIfInBounds_toArray, List.set_cons_zero, List.set_cons_succ]
        refine wpAnyIn_ready (rs := [4]) (by kernel_rfl) (by simp) ?_
        refine AllReadyIn.cons rfl (fun K hK => ?_) AllReadyIn.nil
        obtain ⟨fn, tmps, assign, body, hy, hRn⟩ := HY.out pre' ⟨(x, .slice ao' x.1.xs.length c'), ⟨ao', c', rfl⟩⟩ w4 (HJK.out _ _ _ HJ2.out HK24.out) HLT.out
        unfold dv at hy
        go_simp
        refine ⟨(fun h => by cases h), (round_any_n hRn).mono ?_⟩
        rintro e5 W5 ⟨rfl, hJ5, hk5⟩
        have HJ5 := hid_of hJ5
        have HKQ := hid_of hk5
        clear hJ5 hk5 hRn hy
        refine hK _ _ ?_
        clear hK K
        try simp only [Act.put, List.getElem_toArray, List.getElem_cons_zero, List.getElem_cons_succ, List.setIfInBounds_toArray, List.set_cons_zero, List.set_cons_succ]
        refine wpAnyIn_ready (rs := [5]) (by kernel_rfl) (by simp) ?_
        refine AllReadyIn.cons rfl (fun K hK => ?_) AllReadyIn.nil
        go_simp
        refine hK _ _ ?_
        clear hK K
        try simp only [Act.put, List.getElem_toArray, List.getElem_cons_zero, List.getElem_cons_succ, List.setIfInBounds_toArray, List.set_cons_zero, List.set_cons_succ]
        refine wpAnyIn_done (by kernel_rfl) ?_ _
        gi_wp2
        (have h9 := fin.out _ _ _ rfl HK24.out HJ5.out HKQ.out; rw [hsV] at h9; exact h9)
      refine AllReadyIn.cons rfl (fun K hK => ?_) AllReadyIn.nil
      go_simp
      refine ⟨trivial, (fun h => by cases h), (CallsIn.inRound l' (callsIn_wide.2 (HCL.out _ HK3.out))).mono ?_⟩
      rintro e w4 ⟨v', rfl, hbv, _, hk4⟩
      obtain ⟨ao', c', hvv, _, _⟩ := id hbv
      subst hvv
      have hK24 := HK3.out.trans hk4
      have HK24 := hid_of hK24
      have HB4 := hid_of ((hK24.block _ (heap_lt HBK.out) (fun f => f)).trans HBK.out)
      have hc4 : w4.cell? ⟨W.heap.size, 0, none⟩ = some (.func (.yield l) #[] #[]) := hK24.cell HCB.out (fun f => f)
      clear hbv hk4 hK24
      refine hK _ _ ?_
      clear hK K
      try simp only [Act.put, List.getElem_toArray, List.getElem_cons_zero, List.getElem_cons_succ, List.setIfInBounds_toArray, List.set_cons_zero, List.set_cons_succ]
      refine wpAnyIn_ready (rs := [1]) (by kernel_rfl) (by simp) ?_
      refine AllReadyIn.cons rfl (fun K hK => ?_) AllReadyIn.nil
      refine stIn_load28 rfl _ rfl B rfl 28 (x.1.k.map (Value.int .u8)).toArray (0, 0) HB4.out hds ?_
      refine hK _ _ ?_
      clear hK K
      try simp only [Act.put, List.getElem_toArray, List.getElem_cons_zero, List.getElem_cons_succ, List.setIfInBounds_toArray, List.set_cons_zero, List.set_cons_succ]
      refine wpAnyIn_ready (rs := [4]) (by kernel_rfl) (by simp) ?_
      refine AllReadyIn.cons rfl (fun K hK => ?_) AllReadyIn.nil
      obtain ⟨fn, tmps, assign, body, hy, hRn⟩ := HY.out pre' ⟨(x, .slice ao' x.1.xs.length c'), ⟨ao', c', rfl⟩⟩ w4 (HJK.out _ _ _ HJ2.out HK24.out) HLT.out
      unfold dv at hy
      go_simp
      refine ⟨(fun h => by cases h), (round_any_n hRn).mono ?_⟩
      rintro e5 W5 ⟨rfl, hJ5, hk5⟩
      have HJ5 := hid_of hJ5
      have HKQ := hid_of hk5
      clear hJ5 hk5 hRn hy
      refine hK _ _ ?_
      clear hK K
      try simp only [Act.put, List.getElem_toArray, List.getElem_cons_zero, List.getElem_cons_succ, List.setIfInBounds_toArray, List.set_cons_zero, List.set_cons_succ]
      refine wpAnyIn_ready (rs := [5]) (by kernel_rfl) (by simp) ?_
      refine AllReadyIn.cons rfl (fun K hK => ?_) AllReadyIn.nil
      go_simp
      refine hK _ _ ?_
      clear hK K
      try simp only [Act.put, List.getElem_toArray, List.getElem_cons_zero, List.getElem_cons_succ, List.setIfInBounds_toArray, List.set_cons_zero, List.set_cons_succ]
      refine wpAnyIn_done (by kernel_rfl) ?_ _
      gi_wp2
      (have h9 := fin.out _ _ _ rfl HK24.out HJ5.out HKQ.out; rw [hsV] at h9; exact h9)
    refine AllReadyIn.cons rfl (fun K hK => ?_) ?_
    · refine stIn_load28 rfl _ rfl B rfl 28 (x.1.k.map (Value.int .u8)).toArray (0, 0) HB3.out hds ?_
      refine hK _ _ ?_
      clear hK K
      try simp only [Act.put, List.getElem_toArray, List.getElem_cons_zero, List.getElem_cons_succ, List.setIfInBounds_toArray, List.set_cons_zero, List.set_cons_succ]
      refine wpAnyIn_ready (rs := [0, 3]) (by kernel_rfl) (by simp) ?_
      refine AllReadyIn.cons rfl (fun K hK => ?_) ?_
      · go_simp
        refine hK _ _ ?_
        clear hK K
        try simp only [Act.put, List.getElem_toArray, List.getElem_cons_zero, List.getElem_cons_succ, List.setIfInBounds_toArray, List.set_cons_zero, List.set_cons_succ]
        refine wpAnyIn_ready (rs := [3]) (by kernel_rfl) (by simp) ?_
        refine AllReadyIn.cons rfl (fun K hK => ?_) AllReadyIn.nil
        go_simp
        refine ⟨trivial, (fun h => by cases h), (CallsIn.inRound l' (callsIn_wide.2 (HCL.out _ HK3.out))).mono ?_⟩
        rintro e w4 ⟨v', rfl, hbv, _, hk4⟩
        obtain ⟨ao', c', hvv, _, _⟩ := id hbv
        subst hvv
        have hK24 := HK3.out.trans hk4
        have HK24 := hid_of hK24
        have HB4 := hid_of ((hK24.block _ (heap_lt HBK.out) (fun f => f)).trans HBK.out)
        have hc4 : w4.cell? ⟨W.heap.size, 0, none⟩ = some (.func (.yield l) #[] #[]) := hK24.cell HCB.out (fun f => f)
        clear hbv hk4 hK24
        refine hK _ _ ?_
        clear hK K
        try simp only [Act.put, List.getElem_toArray, List.getElem_cons_zero, List.getElem_cons_succ, List.setIfInBounds_toArray, List.set_cons_zero, List.set_cons_succ]
        refine wpAnyIn_ready (rs := [4]) (by kernel_rfl) (by simp) ?_
        refine AllReadyIn.cons rfl (fun K hK => ?_) AllReadyIn.nil
        obtain ⟨fn, tmps, assign, body, hy, hRn⟩ := HY.out pre' ⟨(x, .slice ao' x.1.xs.length c'), ⟨ao', c', rfl⟩⟩ w4 (HJK.out _ _ _ HJ2.out HK24.out) HLT.out
        unfold dv at hy
        go_simp
        refine ⟨(fun h => by cases h), (round_any_n hRn).mono ?_⟩
        rintro e5 W5 ⟨rfl, hJ5, hk5⟩
        have HJ5 := hid_of hJ5
        have HKQ := hid_of hk5
        clear hJ5 hk5 hRn hy
        refine hK _ _ ?_
        clear hK K
        try simp only [Act.put, List.getElem_toArray, List.getElem_cons_zero, List.getElem_cons_succ, List.setIfInBounds_toArray, List.set_cons_zero, List.set_cons_succ]
        refine wpAnyIn_ready (rs := [5]) (by kernel_rfl) (by simp) ?_
        refine AllReadyIn.cons rfl (fun K hK => ?_) AllReadyIn.nil
        go_simp
        refine hK _ _ ?_
        clear hK K
        try simp only [Act.put, List.getElem_toArray, List.getElem_cons_zero, List.getElem_cons_succ, List.setIfInBounds_toArray, List.set_cons_zero, List.set_cons_succ]
        refine wpAnyIn_done (by kernel_rfl) ?_ _
        gi_wp2
        (have h9 := fin.out _ _ _ rfl HK24.out HJ5.out HKQ.out; rw [hsV] at h9; exact h9)
      refine AllReadyIn.cons rfl (fun K hK => ?_) AllReadyIn.nil
      go_simp
      refine ⟨trivial, (fun h => by cases h), (CallsIn.inRound l' (callsIn_wide.2 (HCL.out _ HK3.out))).mono ?_⟩
      rintro e w4 ⟨v', rfl, hbv, _, hk4⟩
      obtain ⟨ao', c', hvv, _, _⟩ := id hbv
      subst hvv
      have hK24 := HK3.out.trans hk4
      have HK24 := hid_of hK24
      have HB4 := hid_of ((hK24.block _ (heap_lt HBK.out) (fun f => f)).trans HBK.out)
      have hc4 : w4.cell? ⟨W.heap.size, 0, none⟩ = some (.func (.yield l) #[] #[]) := hK24.cell HCB.out (fun f => f)
      clear hbv hk4 hK24
      refine hK _ _ ?_
      clear hK K
      try simp only [Act.put, List.getElem_toArray, List.getElem_cons_zero, List.getElem_cons_succ, List.setIfInBounds_toArray, List.set_cons_zero, List.set_cons_succ]
      refine wpAnyIn_ready (rs := [0]) (by kernel_rfl) (by simp) ?_
      refine AllReadyIn.cons rfl (fun K hK => ?_) AllReadyIn.nil
      go_simp
      refine hK _ _ ?_
      clear hK K
      try simp only [Act.put, List.getElem_toArray, List.getElem_cons_zero, List.getElem_cons_succ, List.setIfInBounds_toArray, List.set_cons_zero, List.set_cons_succ]
      refine wpAnyIn_ready (rs := [4]) (by kernel_rfl) (by simp) ?_
      refine AllReadyIn.cons rfl (fun K hK => ?_) AllReadyIn.nil
      obtain ⟨fn, tmps, assign, body, hy, hRn⟩ := HY.out pre' ⟨(x, .slice ao' x.1.xs.length c'), ⟨ao', c', rfl⟩⟩ w4 (HJK.out _ _ _ HJ2.out HK24.out) HLT.out
      unfold dv at hy
      go_simp
      refine ⟨(fun h => by cases h), (round_any_n hRn).mono ?_⟩
      rintro e5 W5 ⟨rfl, hJ5, hk5⟩
      have HJ5 := hid_of hJ5
      have HKQ := hid_of hk5
      clear hJ5 hk5 hRn hy
      refine hK _ _ ?_
      clear hK K
      try simp only [Act.put, List.getElem_toArray, List.getElem_cons_zero, List.getElem_cons_succ, List.setIfInBounds_toArray, List.set_cons_zero, List.set_cons_succ]
      refine wpAnyIn_ready (rs := [5]) (by kernel_rfl) (by simp) ?_
      refine AllReadyIn.cons rfl (fun K hK => ?_) AllReadyIn.nil
      go_simp
      refine hK _ _ ?_
      clear hK K
      try simp only [Act.put, List.getElem_toArray, List.getElem_cons_zero, List.getElem_cons_succ, List.setIfInBounds_toArray, List.set_cons_zero, List.set_cons_succ]
      refine wpAnyIn_done (by kernel_rfl) ?_ _
      gi_wp2
      (have h9 := fin.out _ _ _ rfl HK24.out HJ5.out HKQ.out; rw [hsV] at h9; exact h9)
    refine AllReadyIn.cons rfl (fun K hK => ?_) AllReadyIn.nil
    go_simp
    refine ⟨trivial, (fun h => by cases h), (CallsIn.inRound l' (callsIn_wide.2 (HCL.out _ HK3.out))).mono ?_⟩
    rintro e w4 ⟨v', rfl, hbv, _, hk4⟩
    obtain ⟨ao', c', hvv, _, _⟩ := id hbv
    subst hvv
    have hK24 := HK3.out.trans hk4
    have HK24 := hid_of hK24
    have HB4 := hid_of ((hK24.block _ (heap_lt HBK.out) (fun f => f)).trans HBK.out)
    have hc4 : w4.cell? ⟨W.heap.size, 0, none⟩ = some (.func (.yield l) #[] #[]) := hK24.cell HCB.out (fun f => f)
    clear hbv hk4 hK24
    refine hK _ _ ?_
    clear hK K
    try simp only [Act.put, List.getElem_toArray, List.getElem_cons_zero, List.getElem_cons_succ, List.setIfInBounds_toArray, List.set_cons_zero, List.set_cons_succ]
    refine wpAnyIn_ready (rs := [0, 1]) (by kernel_rfl) (by simp) ?_
    refine AllReadyIn.cons rfl (fun K hK => ?_) ?_
    · go_simp
      refine hK _ _ ?_
      clear hK K
      try simp only [Act.put, List.getElem_toArray, List.getElem_cons_zero, List.getElem_cons_succ, List.setIfInBounds_toArray, List.set_cons_zero, List.set_cons_succ]
      refine wpAnyIn_ready (rs := [1]) (by kernel_rfl) (by simp) ?_
      refine AllReadyIn.cons rfl (fun K hK => ?_) AllReadyIn.nil
      refine stIn_load28 rfl _ rfl B rfl 28 (x.1.k.map (Value.int .u8)).toArray (0, 0) HB4.out hds ?_
      refine hK _ _ ?_
      clear hK K
      try simp only [Act.put, List.getElem_toArray, List.getElem_cons_zero, List.getElem_cons_succ, List.setIfInBounds_toArray, List.set_cons_zero, List.set_cons_succ]
      refine wpAnyIn_ready (rs := [4]) (by kernel_rfl) (by simp) ?_
      refine AllReadyIn.cons rfl (fun K hK => ?_) AllReadyIn.nil
      obtain ⟨fn, tmps, assign, body, hy, hRn⟩ := HY.out pre' ⟨(x, .slice ao' x.1.xs.length c'), ⟨ao', c', rfl⟩⟩ w4 (HJK.out _ _ _ HJ2.out HK24.out) HLT.out
      unfold dv at hy
      go_simp
      refine ⟨(fun h => by cases h), (round_any_n hRn).mono ?_⟩
      rintro e5 W5 ⟨rfl, hJ5, hk5⟩
      have HJ5 := hid_of hJ5
      have HKQ := hid_of hk5
      clear hJ5 hk5 hRn hy
      refine hK _ _ ?_
      clear hK K
      try simp only [Act.put, List.getElem_toArray, List.getElem_cons_zero, List.getElem_cons_succ, List.setIfInBounds_toArray, List.set_cons_zero, List.set_cons_succ]
      refine wpAnyIn_ready (rs := [5]) (by kernel_rfl) (by simp) ?_
      refine AllReadyIn.cons rfl (fun K hK => ?_) AllReadyIn.nil
      go_simp
      refine hK _ _ ?_
      clear hK K
      try simp only [Act.put, List.getElem_toArray, List.getElem_cons_zero, List.getElem_cons_succ, List.setIfInBounds_toArray, List.set_cons_zero, List.set_cons_succ]
      refine wpAnyIn_done (by kernel_rfl) ?_ _
      gi_wp2
      (have h9 := fin.out _ _ _ rfl HK24.out HJ5.out HKQ.out; rw [hsV] at h9; exact h9)
    refine AllReadyIn.cons rfl (fun K hK => ?_) AllReadyIn.nil
    refine stIn_load28 rfl _ rfl B rfl 28 (x.1.k.map (Value.int .u8)).toArray (0, 0) HB4.out hds ?_
    refine hK _ _ ?_
    clear hK K
    try simp only [Act.put, List.getElem_toArray, List.getElem_cons_zero, List.getElem_cons_succ, List.setIfInBounds_toArray, List.set_cons_zero, List.set_cons_succ]
    refine wpAnyIn_ready (rs := [0]) (by kernel_rfl) (by simp) ?_
    refine AllReadyIn.cons rfl (fun K hK => ?_) AllReadyIn.nil
    go_simp
    refine hK _ _ ?_
    clear hK K
    try simp only [Act.put, List.getElem_toArray, List.getElem_cons_zero, List.getElem_cons_succ, List.setIfInBounds_toArray, List.set_cons_zero, List.set_cons_succ]
    refine wpAnyIn_ready (rs := [4]) (by kernel_rfl) (by simp) ?_
    refine AllReadyIn.cons rfl (fun K hK => ?_) AllReadyIn.nil
    obtain ⟨fn, tmps, assign, body, hy, hRn⟩ := HY.out pre' ⟨(x, .slice ao' x.1.xs.length c'), ⟨ao', c', rfl⟩⟩ w4 (HJK.out _ _ _ HJ2.out HK24.out) HLT.out
    unfold dv at hy
    go_simp
    refine ⟨(fun h => by cases h), (round_any_n hRn).mono ?_⟩
    rintro e5 W5 ⟨rfl, hJ5, hk5⟩
    have HJ5 := hid_of hJ5
    have HKQ := hid_of hk5
    clear hJ5 hk5 hRn hy
    refine hK _ _ ?_
    clear hK K
    try simp only [Act.put, List.getElem_toArray, List.getElem_cons_zero, List.getElem_cons_succ, List.setIfInBounds_toArray, List.set_cons_zero, List.set_cons_succ]
    refine wpAnyIn_ready (rs := [5]) (by kernel_rfl) (by simp) ?_
    refine AllReadyIn.cons rfl (fun K hK => ?_) AllReadyIn.nil
    go_simp
    refine hK _ _ ?_
    clear hK K
    try simp only [Act.put, List.getElem_toArray, List.getElem_cons_zero, List.getElem_cons_succ, List.setIfInBounds_toArray, List.set_cons_zero, List.set_cons_succ]
    refine wpAnyIn_done (by kernel_rfl) ?_ _
    gi_wp2
    (have h9 := fin.out _ _ _ rfl HK24.out HJ5.out HKQ.out; rw [hsV] at h9; exact h9)
  case done =>
    rintro D ys W2 hD hS ⟨pre', hp, hj, hb, hbl, hs⟩ hK
    have HS := hid_of hS
    have HK := hid_of hK
    have HP := hid_of hp
    have HJ2 := hid_of hj
    clear hS hK hj hp hb hbl
    gi_wp2
    refine ⟨by simp, .inl ⟨_, _, rfl, run_takeDeferred HK.out, ?_⟩⟩
    refine ⟨_, results_none rfl _ _ _, ⟨_, rfl⟩, pre', ?_, HJ.out _ W2 _ (some D) HJ2.out (grownBy_putObj' W2 D _) (fun r e => by cases e; exact ⟨by omega, _, HK.out, rfl⟩)⟩
    rw [← HS.out, ← HP.out, List.map_map]
    rfl
end Go.Proofs.YtjdbmjkidljhpaaDoor

namespace Go.Proofs.YtjdbmjkidljhpaaDoor
open Go.RowKit
set_option linter.unusedVariables false
set_option linter.unusedSimpArgs false
set_option maxRecDepth 100000

/-- Bytes in order. -/
def ltB : List Int → List Int → Bool
  | [], [] => false
  | [], _ :: _ => true
  | _ :: _, [] => false
  | a :: l, b :: m => if a < b then true else if b < a then false else ltB l m

theorem toU8_lt {a b : Int} (ha : 0 ≤ a ∧ a < 256) (hb : 0 ≤ b ∧ b < 256) : a.toNat.toUInt8 < b.toNat.toUInt8 ↔ a < b := by
  rw [UInt8.lt_iff_toNat_lt]
  simp only [Nat.toUInt8, UInt8.toNat_ofNat']
  omega

theorem cmp_lt : ∀ (a b : List Int), (∀ x ∈ a, 0 ≤ x ∧ x < 256) → (∀ x ∈ b, 0 ≤ x ∧ x < 256) → decide (Lib.compareBytes (Lib.bytesOf a) (Lib.bytesOf b) < 0) = ltB a b
  | [], [], _, _ => rfl
  | [], _ :: _, _, _ => rfl
  | _ :: _, [], _, _ => rfl
  | a :: l, b :: m, ha, hb => by
    have ih := cmp_lt l m (fun x hx => ha x (List.mem_cons_of_mem _ hx)) (fun x hx => hb x (List.mem_cons_of_mem _ hx))
    have h1 := toU8_lt (ha a (List.mem_cons_self ..)) (hb b (List.mem_cons_self ..))
    have h2 := toU8_lt (hb b (List.mem_cons_self ..)) (ha a (List.mem_cons_self ..))
    show decide (Lib.compareBytes (a.toNat.toUInt8 :: Lib.bytesOf l) (b.toNat.toUInt8 :: Lib.bytesOf m) < 0) = _
    rw [Lib.compareBytes, ltB]
    by_cases c1 : a < b
    · rw [if_pos (h1.2 c1), if_pos c1]; rfl
    · rw [if_neg (fun h => c1 (h1.1 h)), if_neg c1]
      by_cases c2 : b < a
      · rw [if_pos (h2.2 c2), if_pos c2]; rfl
      · rw [if_neg (fun h => c2 (h2.1 h)), if_neg c2]; exact ih

theorem run_bytesOf (w : World) (b o n c : Nat) (xs : List Int) (hx : xs.length = n) (hc : ∀ i, i < n → w.cell? ⟨b, o + i, none⟩ = some (.int .u8 (xs.getD i 0))) :
    (Extern.Bytes.bytesOf (.slice (some ⟨b, o, none⟩) n c)).run Tryd.prog w = .ok ⟨(Lib.bytesOf xs).toArray⟩ w := by
  have hl := Lib.run_loadBytesX (P := Tryd.prog) w xs ⟨b, o, none⟩ .empty (fun j x hj => by
    have hjl : j < xs.length := (List.getElem?_eq_some_iff.1 hj).1
    rw [Addr.add_mid, hc j (by omega), List.getD_eq_getElem?_getD, hj]
    rfl)
  rw [hx] at hl
  have he : (⟨ByteArray.empty.data ++ (Lib.bytesOf xs).toArray⟩ : ByteArray) = ⟨(Lib.bytesOf xs).toArray⟩ := by
    apply ByteArray.ext
    show (#[] : Array UInt8) ++ (Lib.bytesOf xs).toArray = (Lib.bytesOf xs).toArray
    simp
  rw [he] at hl
  exact hl

theorem run_compare (w : World) (b o n c b' o' n' c' : Nat) (xs ys : List Int) (hx : xs.length = n) (hy : ys.length = n') (hc : ∀ i, i < n → w.cell? ⟨b, o + i, none⟩ = some (.int .u8 (xs.getD i 0))) (hd : ∀ i, i < n' → w.cell? ⟨b', o' + i, none⟩ = some (.int .u8 (ys.getD i 0))) :
    (Extern.BytealgCompare.compare #[.slice (some ⟨b, o, none⟩) n c, .slice (some ⟨b', o', none⟩) n' c']).run Tryd.prog w = .ok (.int .i64 (Lib.compareBytes (Lib.bytesOf xs) (Lib.bytesOf ys))) w := by
  have h1 := run_bytesOf w b o n c xs hx hc
  have h2 := run_bytesOf w b' o' n' c' ys hy hd
  show Sem.run Tryd.prog (do pure (goInt (Extern.BytealgCompare.cmp (← Extern.Bytes.bytesOf (.slice (some ⟨b, o, none⟩) n c)) (← Extern.Bytes.bytesOf (.slice (some ⟨b', o', none⟩) n' c'))))) w = _
  simp only [Sem.run_bind, Sem.run_pure, h1, h2, Result.andThen, Lib.cmp_eq, goInt]

set_option maxRecDepth 100000 in
set_option maxHeartbeats 1000000 in
theorem compare_any (b o n c b' o' n' c' : Nat) (xs ys : List Int) (w : World) (hx : xs.length = n) (hy : ys.length = n') (hc : ∀ i, i < n → w.cell? ⟨b, o + i, none⟩ = some (.int .u8 (xs.getD i 0))) (hd : ∀ i, i < n' → w.cell? ⟨b', o' + i, none⟩ = some (.int .u8 (ys.getD i 0))) :
    Calls Tryd.prog 71 #[.slice (some ⟨b, o, none⟩) n c, .slice (some ⟨b', o', none⟩) n' c'] w fun e w' => e = .returned (.int .i64 (Lib.compareBytes (Lib.bytesOf xs) (Lib.bytesOf ys))) ∧ w' = w := by
  have hrun := run_compare w b o n c b' o' n' c' xs ys hx hy hc hd
  have HRUN := hid_of hrun
  clear hrun hc hd
  go_enter Tryd.func71, Tryd.ntmps71
  go_wp2
  rw [run_callFunc_extern Tryd.func83 (by kernel_rfl) (by kernel_rfl) (by kernel_rfl) (e := Extern.BytealgCompare.compare) (by kernel_rfl), HRUN.out]
  simp only [Result.andThen]
  rw [Oper.upon_value]
  go_wp2
  go_ret
  exact ⟨rfl, rfl⟩

theorem cells_list {w : World} {b : Nat} {xs : List Int} {t : TypeId} {f : Nat × Nat} (h : w.heap[b]? = some (.cells (xs.map (Value.int .u8)).toArray t f)) : ∀ i, i < xs.length → w.cell? ⟨b, i, none⟩ = some (.int .u8 (xs.getD i 0)) := fun i hi => by
  rw [cell_block _ _ _ _ _ _ h]
  simp [List.getD, List.getElem?_eq_getElem hi]

set_option maxRecDepth 100000 in
set_option maxHeartbeats 1000000 in
theorem grow_drewN {w w2 : World} (h : ∃ os', w2 = Sort.grow w os') (n : Nat) : ∃ q os', w2.drewN n = Sort.grow (w.drewN q) os' := by
  obtain ⟨os', rfl⟩ := h
  exact ⟨n, os', rfl⟩
theorem less_any (a b : List Int) (ha : a.length = 32) (hb : b.length = 32) (hra : ∀ x ∈ a, 0 ≤ x ∧ x < 256) (hrb : ∀ x ∈ b, 0 ≤ x ∧ x < 256) (w : World) :
    Calls Tryd.prog 63 #[.agg (a.map (Value.int .u8)).toArray, .agg (b.map (Value.int .u8)).toArray] w fun e w' => e = .returned (.bool (ltB a b)) ∧ ∃ q os', w' = Sort.grow (w.drewN q) os' := by
  have hl := cmp_lt a b hra hrb
  have HL := hid_of hl
  clear hl hra hrb
  go_enter Tryd.func63, Tryd.ntmps63
  go_wp2
  have h1 := cells_list (w := ((w.alloc (Obj.cells (List.map (Value.int IntKind.u8) a).toArray 28)).alloc (Obj.cells (List.map (Value.int IntKind.u8) b).toArray 28))) (b := w.heap.size) (alloc_old (alloc_new _ _ rfl))
  have h2 := cells_list (w := ((w.alloc (Obj.cells (List.map (Value.int IntKind.u8) a).toArray 28)).alloc (Obj.cells (List.map (Value.int IntKind.u8) b).toArray 28))) (b := w.heap.size + 1) (alloc_new _ _ (by simp))
  have hk : ∃ os', (w.alloc (Obj.cells (List.map (Value.int IntKind.u8) a).toArray 28)).alloc (Obj.cells (List.map (Value.int IntKind.u8) b).toArray 28) = Sort.grow w os' := ⟨_, by rw [Sort.alloc_eq_grow, Sort.alloc_eq_grow, Sort.grow_grow]⟩
  generalize (w.alloc (Obj.cells (List.map (Value.int IntKind.u8) a).toArray 28)).alloc (Obj.cells (List.map (Value.int IntKind.u8) b).toArray 28) = w2 at *
  rw [ha] at h1
  rw [hb] at h2
  have HC : Hid (∀ n, Calls Tryd.prog 71 #[.slice (some ⟨w.heap.size, 0, none⟩) 32 32, .slice (some ⟨w.heap.size + 1, 0, none⟩) 32 32] (w2.drewN n) fun e w' => e = .returned (.int .i64 (Lib.compareBytes (Lib.bytesOf a) (Lib.bytesOf b))) ∧ w' = w2.drewN n) :=
    fun n => compare_any _ _ _ _ _ _ _ _ a b (w2.drewN n) ha hb (fun i hi => by rw [Nat.zero_add]; exact h1 i hi) (fun i hi => by rw [Nat.zero_add]; exact h2 i hi)
  have HK := hid_of hk
  clear h1 h2 hk
  go_quiet (first | (go_at_call 71; exact (HC.out _).mono (fun _ _ h => ⟨h.1, _, h.2⟩)))
  go_wp2
  go_ret
  exact ⟨by rw [← HL.out]; rfl, grow_drewN HK.out _⟩

theorem ltB_irr : ∀ a : List Int, ltB a a = false
  | [] => rfl
  | x :: l => by rw [ltB, if_neg (by omega), if_neg (by omega)]; exact ltB_irr l
theorem ltB_asym : ∀ a b : List Int, ltB a b = true → ltB b a = false
  | [], [], h => rfl
  | [], _ :: _, _ => rfl
  | x :: l, y :: m, h => by
    rw [ltB] at h ⊢
    by_cases c1 : x < y
    · rw [if_neg (by omega), if_pos c1]
    · rw [if_neg c1] at h
      by_cases c2 : y < x
      · rw [if_pos c2] at h
        cases h
      · rw [if_neg c2] at h
        rw [if_neg c2, if_neg c1]
        exact ltB_asym l m h
theorem ltB_total : ∀ a b : List Int, a.length = b.length → ltB a b = false → ltB b a = false → a = b
  | [], [], _, _, _ => rfl
  | x :: l, y :: m, hl, h1, h2 => by
    rw [ltB] at h1 h2
    by_cases c1 : x < y
    · rw [if_pos c1] at h1
      cases h1
    · by_cases c2 : y < x
      · rw [if_pos c2] at h2
        cases h2
      · rw [if_neg c1, if_neg c2] at h1
        rw [if_neg c2, if_neg c1] at h2
        obtain rfl : x = y := by omega
        rw [ltB_total l m (by simpa using hl) h1 h2]
theorem ltB_trans : ∀ a b c : List Int, ltB a b = true → ltB b c = true → ltB a c = true
  | [], _, [], h1, h2 => by
    rename_i b
    cases b with
    | nil => cases h1
    | cons y m => cases h2
  | [], _, _ :: _, _, _ => rfl
  | x :: l, [], _, h1, _ => by cases h1
  | x :: l, y :: m, [], _, h2 => by cases h2
  | x :: l, y :: m, z :: n, h1, h2 => by
    rw [ltB] at h1 h2 ⊢
    by_cases c1 : x < y
    · by_cases c2 : y < z
      · rw [if_pos (by omega)]
      · rw [if_neg c2] at h2
        by_cases c3 : z < y
        · rw [if_pos c3] at h2
          cases h2
        · rw [if_pos (by omega)]
    · rw [if_neg c1] at h1
      by_cases c4 : y < x
      · rw [if_pos c4] at h1
        cases h1
      · rw [if_neg c4] at h1
        obtain rfl : x = y := by omega
        by_cases c2 : x < z
        · rw [if_pos c2]
        · rw [if_neg c2] at h2 ⊢
          by_cases c3 : z < x
          · rw [if_pos c3] at h2
            cases h2
          · rw [if_neg c3] at h2 ⊢
            exact ltB_trans l m n h1 h2
/-- The order that the sort goes by. -/
def ordD (x y : Dg) : Int := if x.1 = y.1 then 0 else if ltB x.1 y.1 = true then -1 else 1
def encD (x : Dg) : List Value := x.1.map (Value.int .u8)
theorem ordD_lt (x y : Dg) : ltOf ordD x y = ltB x.1 y.1 := by
  unfold ltOf ordD
  by_cases h : x.1 = y.1
  · rw [if_pos h, h, ltB_irr]
    rfl
  · rw [if_neg h]
    cases hl : ltB x.1 y.1 <;> simp
theorem ordD_swo : Sort.SWO (ltOf ordD) where
  irrefl x := by rw [ordD_lt]; exact ltB_irr _
  trans x y z h1 h2 := by rw [ordD_lt] at *; exact ltB_trans _ _ _ h1 h2
  ntrans x y z h1 h2 := by
    rw [ordD_lt] at *
    cases h : ltB x.1 z.1 with
    | false => rfl
    | true =>
      cases h3 : ltB y.1 x.1 with
      | true =>
        have := ltB_trans _ _ _ h3 h
        rw [h2] at this
        cases this
      | false =>
        have e : x.1 = y.1 := ltB_total _ _ (by rw [x.2.1, y.2.1]) h1 h3
        rw [e, h2] at h
        cases h

set_option maxHeartbeats 2000000 in
theorem order_any (x y : Dg) (W : World) : Calls Tryd.prog 51 #[.agg (encD x).toArray, .agg (encD y).toArray] W fun e w' => e = .returned (.int .i64 (ordD x y)) ∧ ∃ q os', w' = Sort.grow (W.drewN q) os' := by
  have HL := hid_of (fun w => less_any x.1 y.1 x.2.1 y.2.1 x.2.2 y.2.2 w)
  have HEQ : Hid (∀ W' : World, (Op.equalIn 10000 28 (.agg (x.1.map (Value.int .u8)).toArray) (.agg (y.1.map (Value.int .u8)).toArray)).run Tryd.prog W' = .ok (decide (x.1 = y.1)) W') := fun W' => run_eq_arr W' 9998 28 32 x.1 y.1 Tryd.underlying28 x.2.1 y.2.1
  have hd1 := size28_of x.1 x.2.1
  have hd2 := size28_of y.1 y.2.1
  have HB1 : Hid (((W.alloc (.cells (x.1.map (Value.int .u8)).toArray 28)).alloc (.cells (y.1.map (Value.int .u8)).toArray 28)).heap[W.heap.size]? = some (.cells (x.1.map (Value.int .u8)).toArray 28 (0, 0))) := alloc_old (alloc_new _ _ rfl)
  have HB2 : Hid (((W.alloc (.cells (x.1.map (Value.int .u8)).toArray 28)).alloc (.cells (y.1.map (Value.int .u8)).toArray 28)).heap[W.heap.size + 1]? = some (.cells (y.1.map (Value.int .u8)).toArray 28 (0, 0))) := alloc_new _ _ (by simp)
  have HG : Hid (∃ os', (W.alloc (.cells (x.1.map (Value.int .u8)).toArray 28)).alloc (.cells (y.1.map (Value.int .u8)).toArray 28) = Sort.grow W os') := ⟨_, by rw [Sort.alloc_eq_grow, Sort.alloc_eq_grow, Sort.grow_grow]⟩
  unfold encD
  go_enter Tryd.func51, Tryd.ntmps51
  by_cases he : x.1 = y.1
  · have hcf : ordD x y = 0 := by unfold ordD; rw [if_pos he]
    have hde : decide (x.1 = y.1) = true := by simp [he]
    rw [hde] at HEQ
    rw [hcf]
    clear hcf hde he
    have hq := HEQ.out ((W.alloc (.cells (x.1.map (Value.int .u8)).toArray 28)).alloc (.cells (y.1.map (Value.int .u8)).toArray 28))
    go_wp2_with (first | (refine wpList_load_row rfl 28 _ rfl W.heap.size rfl 28 (x.1.map (Value.int .u8)).toArray (0, 0) _ HB1.out Tryd.underlying28 rfl hd1 ?_) | (refine wpList_load_row rfl 28 _ rfl (W.heap.size + 1) rfl 28 (y.1.map (Value.int .u8)).toArray (0, 0) _ HB2.out Tryd.underlying28 rfl hd2 ?_))
    go_ret
    obtain ⟨os3, h3⟩ := HG.out
    exact ⟨rfl, 0, os3, h3⟩
  · have hde : decide (x.1 = y.1) = false := by simp [he]
    rw [hde] at HEQ
    have hq := HEQ.out ((W.alloc (.cells (x.1.map (Value.int .u8)).toArray 28)).alloc (.cells (y.1.map (Value.int .u8)).toArray 28))
    go_wp2_with (first | (refine wpList_load_row rfl 28 _ rfl W.heap.size rfl 28 (x.1.map (Value.int .u8)).toArray (0, 0) _ HB1.out Tryd.underlying28 rfl hd1 ?_) | (refine wpList_load_row rfl 28 _ rfl (W.heap.size + 1) rfl 28 (y.1.map (Value.int .u8)).toArray (0, 0) _ HB2.out Tryd.underlying28 rfl hd2 ?_))
    refine (HL.out _).mono ?_
    rintro e w' ⟨rfl, q, os', rfl⟩
    have HF : Hid (∃ q' os2, Sort.grow (((W.alloc (.cells (x.1.map (Value.int .u8)).toArray 28)).alloc (.cells (y.1.map (Value.int .u8)).toArray 28)).drewN q) os' = Sort.grow (W.drewN q') os2) := by
      obtain ⟨os3, h3⟩ := HG.out
      rw [h3]
      exact ⟨q, os3 ++ os', by rw [← Sort.grow_grow]; rfl⟩
    generalize Sort.grow (((W.alloc (.cells (x.1.map (Value.int .u8)).toArray 28)).alloc (.cells (y.1.map (Value.int .u8)).toArray 28)).drewN q) os' = wz at *
    cases hl : ltB x.1 y.1 with
    | true =>
      have hcf : ordD x y = -1 := by unfold ordD; rw [if_neg he, if_pos hl]
      go_wp2
      go_ret
      exact ⟨by rw [hcf]; rfl, HF.out⟩
    | false =>
      have hcf : ordD x y = 1 := by unfold ordD; rw [if_neg he, if_neg (by rw [hl]; decide)]
      go_wp2
      go_ret
      exact ⟨by rw [hcf]; rfl, HF.out⟩
end Go.Proofs.YtjdbmjkidljhpaaDoor

namespace Go.Proofs
open Go.Shelf
shelf_lay_g SlLaysF0.n6 Slsf 6 at Tryd 61 as Tryd.sortDg
end Go.Proofs
namespace Go.Proofs.YtjdbmjkidljhpaaDoor
open Go.RowKit Go.Shelf
set_option linter.unusedVariables false
set_option linter.unusedSimpArgs false
set_option maxRecDepth 100000

theorem flatD_at : ∀ (xs : List Dg) (i : Nat) (x : Dg) (t : Nat), xs[i]? = some x → t < 32 → (flatD xs)[i * 32 + t]? = (x.1.map (Value.int .u8))[t]?
  | [], i, x, t, h, _ => by cases h
  | y :: xs, 0, x, t, h, ht => by
    obtain rfl : y = x := by simpa using h
    rw [flatD, Nat.zero_mul, Nat.zero_add, List.getElem?_append_left (by rw [List.length_map, y.2.1]; exact ht)]
  | y :: xs, i + 1, x, t, h, ht => by
    have hl : (y.1.map (Value.int .u8)).length = 32 := by rw [List.length_map, y.2.1]
    rw [flatD, List.getElem?_append_right (by omega), hl, show (i + 1) * 32 + t - 32 = i * 32 + t by omega]
    exact flatD_at xs i x t (by simpa using h) ht
theorem flatD_len : ∀ (xs : List Dg), (flatD xs).length = xs.length * 32
  | [] => rfl
  | y :: xs => by
    rw [flatD, List.length_append, flatD_len xs, List.length_map, y.2.1, List.length_cons]
    omega
theorem kept_sort {α : Type} [Inhabited α] (enc : α → List Value) (k : Nat) (w : World) (blk off n : Nat) (d : Array α) (os : Array Obj) (hb : blk < w.heap.size) : Kept (fun i => i = blk) w (sortWorldK enc k w blk off n d os) := by
  refine ⟨rfl, rfl, rfl, ?_, fun i hi hn => ?_⟩
  · simp [sortWorldK, Sort.grow, Sort.putRowK, Sort.putRow, Sort.mapBlock, Sort.ahead]
  · have hs : i < (Sort.putRowK enc k (Sort.ahead w n) blk off d).heap.size := by simpa [Sort.putRowK, Sort.putRow, Sort.mapBlock, Sort.ahead] using hi
    show ((Sort.putRowK enc k (Sort.ahead w n) blk off d).heap ++ os)[i]? = _
    rw [Array.getElem?_append_left hs]
    simp [Sort.putRowK, Sort.putRow, Sort.mapBlock, Sort.ahead, Array.getElem?_modify, Ne.symm hn]
theorem collect_full (Bn r clock : Nat) (es : List En) (w : World) (hM : MapAt w r clock es) (hn : es.length ≤ 1000000000) (hBn : Bn < w.heap.size) (hc : w.cell? ⟨Bn, 0, none⟩ = some (.map (some r))) :
    Calls Tryd.prog 60 #[.func (.func 62) #[] #[.pointer (some ⟨Bn, 0, none⟩)]] w fun e w' => ∃ v, ∃ ys : List Dg, e = .returned v ∧ (ys.map (·.1)).Perm (es.map En.k) ∧ w'.ownsRow w.heap.size 28 32 v ys.length (flatD ys) ∧ Kept (fun _ => False) w w' := by
  have HA := hid_of (aseq_full Bn r clock es w hM hn hBn hc)
  clear hc hM
  go_enter Tryd.func60, Tryd.ntmps60
  go_wp2_with fail
  refine HA.out.mono ?_
  rintro e w1 ⟨v, ys, rfl, h1, h2, h3⟩
  have HK := hid_of (And.intro h1 (And.intro h2 h3))
  clear h1 h2 h3
  go_wp2
  go_ret
  exact ⟨v, ys, rfl, HK.out.1, HK.out.2.1, HK.out.2.2⟩

set_option maxHeartbeats 2000000 in
theorem sorted_full (Bn r clock : Nat) (es : List En) (w : World) (hM : MapAt w r clock es) (hn : es.length ≤ 1000000000) (hBn : Bn < w.heap.size) (hc : w.cell? ⟨Bn, 0, none⟩ = some (.map (some r))) :
    Calls Tryd.prog 49 #[.func (.func 62) #[] #[.pointer (some ⟨Bn, 0, none⟩)], .func (.func 51) #[] #[]] w fun e w' => ∃ ao cap, ∃ ds : List Dg, e = .returned (.slice ao ds.length cap) ∧ (ds.map (·.1)).Perm (es.map En.k) ∧ (∀ i d, ds[i]? = some d → ∃ g o, ao = some ⟨g, o, none⟩ ∧ w'.rangeAt g (o + i * 32) (d.1.map (Value.int .u8))) ∧ (∀ g o, ao = some ⟨g, o, none⟩ → w.heap.size ≤ g ∧ g < w'.heap.size) ∧ Kept (fun _ => False) w w' := by
  have HA := hid_of (collect_full Bn r clock es w hM hn hBn hc)
  have HS0 := hid_of sortf_none
  haveI : Inhabited Dg := ⟨⟨List.replicate 32 0, by simp, fun x hx => by rw [List.eq_of_mem_replicate hx]; decide⟩⟩
  clear hc hM
  go_enter Tryd.func49, Tryd.ntmps49
  go_wp2_with fail
  refine HA.out.mono ?_
  rintro e w1 ⟨v, ys, rfl, hperm, hown, hk⟩
  have HP := hid_of hperm
  have HK := hid_of hk
  rcases id hown.2 with ⟨rfl, h0⟩ | ⟨g, cap, cur, rfl, hbg, hg, hnc, hcm, hcs, htake⟩
  · obtain rfl : ys = [] := List.eq_nil_of_length_eq_zero h0
    clear hperm hk hown HA
    go_wp2_with fail
    refine (HS0.out _).mono ?_
    rintro e w2 ⟨rfl, rfl⟩
    go_wp2
    go_ret
    exact ⟨none, 0, [], rfl, HP.out, fun i d h => (by cases h), fun g o h => (by cases h), HK.out⟩
  · have hH : Sort.HoldsK encD 32 w1 g 0 ys.toArray := fun j hj => by
      rw [Sort.size_flatK, List.size_toArray] at hj
      refine ⟨?_, frozen_block _ _ _ _ _ hg⟩
      obtain ⟨x, hx⟩ : ∃ x, ys[j / 32]? = some x := ⟨_, List.getElem?_eq_getElem (by omega)⟩
      have hlx : (x.1.map (Value.int .u8)).length = 32 := by rw [List.length_map, x.2.1]
      have h5 := flatD_at ys (j / 32) x (j % 32) hx (by omega)
      rw [show j / 32 * 32 + j % 32 = j by omega] at h5
      have h6 := hown.cells (g := g) rfl j _ (h5.trans (List.getElem?_eq_getElem (by omega)))
      rw [Addr.add_mid] at h6
      rw [h6, id, Sort.get_flatK _ _ _ _ (by rw [List.size_toArray]; exact hj)]
      have h7 : ys.toArray[j / 32]! = x := by
        have h8 := (List.getElem?_eq_some_iff.1 hx).1
        rw [getElem!_pos ys.toArray (j / 32) (by simpa using h8)]
        have h9 := (List.getElem?_eq_some_iff.1 hx).2
        simpa using h9
      rw [h7]
      unfold encD
      rw [getElem!_pos (x.1.map (Value.int .u8)) (j % 32) (by omega)]
    have eg : ∀ args w, (callFunc 51 args).run Tryd.prog w = .ok (.enter 51 args) w := enters_of Tryd.func51 (by kernel_rfl) rfl
    have hlen : ys.length ≤ 1000000000 := by
      have := HP.out.length_eq
      rw [List.length_map, List.length_map] at this
      omega
    have hcon := AnyQ.slices_SortFunc Tryd.sortDg 32 Tryd.isAgg28 Tryd.sizeOf28 encD (fun x => by unfold encD; rw [List.length_map, x.2.1]) (fun x v hv => by unfold encD at hv; obtain ⟨y, _, rfl⟩ := List.mem_map.1 hv; rfl) ordD ordD_swo 51 #[] g 0 cap ys.toArray w1 eg (fun _ _ _ _ x y => order_any x y _) hH (heap_lt hg) (by rw [List.size_toArray]; omega)
    change Calls Tryd.prog 61 _ _ _ at hcon
    rw [List.size_toArray] at hcon
    have HC := hid_of hcon
    have HH := hid_of hH
    have HG := hid_of hg
    clear hcon hH hperm hk hown HA hg htake
    go_wp2_with fail
    refine HC.out.mono ?_
    rintro e w2 ⟨rfl, d', m, os, hp', _, rfl⟩
    have HP2 := hid_of hp'
    have HK2 := hid_of (kept_sort encD 32 w1 g 0 m d' os (heap_lt HG.out))
    have HH2 := hid_of (holdsK_sortWorldK_c encD 32 w1 g 0 ys.toArray d' m os HH.out (heap_lt HG.out) hp'.1)
    generalize sortWorldK encD 32 w1 g 0 m d' os = w2 at *
    clear hp' HC
    go_wp2
    go_ret
    have hsz : d'.size = ys.length := by have := HP2.out.1; simpa using this
    refine ⟨some ⟨g, 0, none⟩, cap, d'.toList, ?_, ?_, fun i d hd => ⟨g, 0, rfl, ?_⟩, fun g' o h => ?_, ?_⟩
    · have hl2 : d'.toList.length = ys.length := by simp [hsz]
      rw [hl2]
      rfl
    · have h5 := HP2.out.2.2
      rw [show (d'.extract 0 ys.length) = d' by rw [← hsz]; simp, show (ys.toArray.extract 0 ys.length) = ys.toArray by simp] at h5
      exact (h5.map (·.1)).trans HP.out
    · have hi : i < d'.size := by have := (List.getElem?_eq_some_iff.1 hd).1; simpa using this
      have hdi : d'[i]! = d := by
        rw [getElem!_pos d' i hi]
        have := (List.getElem?_eq_some_iff.1 hd).2
        simpa using this
      intro j u hj
      have hj2 := (List.getElem?_eq_some_iff.1 hj).1
      have hlx : (d.1.map (Value.int .u8)).length = 32 := by rw [List.length_map, d.2.1]
      have := (Sort.HoldsK.cell (enc := encD) HH2.out hi (show j < 32 by omega)).1
      rw [this, hdi, ← hj]
      unfold encD
      rw [getElem!_pos _ j hj2, List.getElem?_eq_getElem hj2]
    · cases h
      exact ⟨hbg, Nat.lt_of_lt_of_le (heap_lt HG.out) HK2.out.size⟩
    · exact HK.out.step HK2.out (fun i hi e => by omega)
end Go.Proofs.YtjdbmjkidljhpaaDoor

namespace Go.Proofs.YtjdbmjkidljhpaaDoor
open Go.RowKit Go.Shelf
attribute [local go_sem] Oper.semAt_some
set_option linter.unusedVariables false
set_option linter.unusedSimpArgs false
set_option maxRecDepth 100000

theorem keys_box (r : Option Nat) (w : World) : Calls Tryd.prog 50 #[.map r] w fun e w' => e = .returned (.func (.func 62) #[] #[.pointer (some ⟨w.heap.size, 0, none⟩)]) ∧ w' = w.alloc (.cells #[.map r] 59) := by
  go_enter Tryd.func50, Tryd.ntmps50
  go_wp2
  go_ret
  exact ⟨rfl, rfl⟩
/-- What row leaves. -/
structure RowOf (w w' : World) (es : List En) (B1 B2 r clock : Nat) (ds : List Dg) (ao : Option Addr) (cap : Nat) : Prop where
  at_ : RowAt w' B1 B2 r clock es ds ao cap
  perm : (ds.map (·.1)).Perm (es.map En.k)
  n1 : w.heap.size ≤ B1 ∧ B1 < w'.heap.size
  n2 : w.heap.size ≤ B2 ∧ B2 < w'.heap.size
  n3 : w.heap.size ≤ r ∧ r < w'.heap.size
  n4 : ∀ g o, ao = some ⟨g, o, none⟩ → w.heap.size ≤ g ∧ g < w'.heap.size
  kp : Kept (fun _ => False) w w'
set_option maxHeartbeats 2000000 in
theorem row_full {w : World} {s : Nat} {mv : Value} {σ : Sg} (h : Stor w s mv σ) (hn : σ.es.length ≤ 1000000000) : Calls Tryd.prog 42 #[.pointer (some ⟨s, 0, none⟩)] w fun e w' => ∃ B1 B2 r clock ds ao cap, e = .returned (.func (.func 53) #[] #[.pointer (some ⟨B1, 0, none⟩), .pointer (some ⟨B2, 0, none⟩)]) ∧ RowOf w w' σ.es B1 B2 r clock ds ao cap := by
  have c2 : w.cell? ⟨s, 2, none⟩ = some mv := h.cell 2
  have HC2 := hid_of c2
  have HKB := hid_of keys_box
  rcases h.map with ⟨rfl, hes⟩ | ⟨r, clock, rfl, hb, hrs, hst⟩
  · have HES := hid_of hes
    have HMC := hid_of mclone_none
    clear h hes
    go_enter Tryd.func42, Tryd.ntmps42
    go_wp2_with fail
    refine (HKB.out _ _).mono ?_
    rintro e w1 ⟨rfl, rfl⟩
    have HS := hid_of (sorted_none w.heap.size (w.alloc (.cells #[.map none] 59)) (by simp) ((cell_block _ _ _ _ _ _ (alloc_new _ _ rfl)).trans rfl))
    have HK1 : Hid (Kept (fun _ => False) w (w.alloc (.cells #[.map none] 59))) := (Kept.refl _ w).alloc _
    go_wp2_with fail
    refine HS.out.mono ?_
    rintro e w2 ⟨rfl, hk⟩
    have HK2 := hid_of (HK1.out.trans hk)
    have hsz := HK2.out.size
    have c3 := HK2.out.cell HC2.out (fun f => f)
    have c4 : (w2.alloc (.cells #[.slice none 0 0] 89)).cell? ⟨s, 2, none⟩ = some (.map none) := (HK2.out.alloc _).cell HC2.out (fun f => f)
    clear hk HS HK1 HKB c2 c3
    go_wp2_with fail
    refine (HMC.out _).mono ?_
    rintro e w3 ⟨rfl, rfl⟩
    go_wp2
    go_ret
    refine ⟨w2.heap.size, w2.heap.size + 1, w2.heap.size, 0, [], none, 0, rfl, ⟨⟨?_, fun h => absurd rfl h, fun e he => (by rw [HES.out] at he; cases he), fun i d hd => (by cases hd), fun d hd => (by cases hd)⟩, (by rw [HES.out]; exact List.Perm.refl _), (by simp; omega), (by simp; omega), (by simp; omega), fun g o h => (by cases h), (HK2.out.alloc _).alloc _⟩⟩
    rw [cell_block _ _ _ _ _ _ (alloc_old (alloc_new w2 _ rfl))]
    rfl
  · have HMP : Hid (MapAt w r clock σ.es) := ⟨hb, h.key, hst.1, hst.2.1⟩
    have HMC := hid_of (fun w hb => mclone_any r clock (σ.es.map En.ent).toArray w hb)
    clear h hb hst
    go_enter Tryd.func42, Tryd.ntmps42
    go_wp2_with fail
    refine (HKB.out _ _).mono ?_
    rintro e w1 ⟨rfl, rfl⟩
    have HK1 : Hid (Kept (fun _ => False) w (w.alloc (.cells #[.map (some r)] 59))) := (Kept.refl _ w).alloc _
    have HS := hid_of (sorted_full w.heap.size r clock σ.es (w.alloc (.cells #[.map (some r)] 59)) (HMP.out.kept HK1.out (fun f => f)) hn (by simp) ((cell_block _ _ _ _ _ _ (alloc_new _ _ rfl)).trans rfl))
    go_wp2_with fail
    refine HS.out.mono ?_
    rintro e w2 ⟨ao, cap, ds, rfl, hperm, hrow, hge, hk⟩
    have HK2 := hid_of (HK1.out.trans hk)
    have HPM := hid_of hperm
    have HRW := hid_of hrow
    have HGE := hid_of hge
    have hsz := HK2.out.size
    have c4 : (w2.alloc (.cells #[.slice ao ds.length cap] 89)).cell? ⟨s, 2, none⟩ = some (.map (some r)) := (HK2.out.alloc _).cell HC2.out (fun f => f)
    have HK3 : Hid (Kept (fun _ => False) w (w2.alloc (.cells #[.slice ao ds.length cap] 89))) := HK2.out.alloc _
    have HB1 : Hid ((w2.alloc (.cells #[.slice ao ds.length cap] 89)).heap[w2.heap.size]? = some (.cells #[.slice ao ds.length cap] 89 (0, 0))) := alloc_new _ _ rfl
    have HKR : Hid (Kept (fun _ => False) w2 (w2.alloc (.cells #[.slice ao ds.length cap] 89))) := (Kept.refl _ w2).alloc _
    have hs3 : (w2.alloc (.cells #[.slice ao ds.length cap] 89)).heap.size = w2.heap.size + 1 := by simp
    clear hk HS HK1 HKB c2 hperm hrow hge
    go_wp2_with fail
    generalize w2.alloc (.cells #[.slice ao ds.length cap] 89) = w3 at *
    refine (HMC.out _ (HMP.out.kept HK3.out (fun f => f)).blk).mono ?_
    rintro e w4 ⟨rfl, rfl⟩
    have HK5 : Hid (Kept (fun _ => False) w3 ((w3.alloc (.map (σ.es.map En.ent).toArray clock)).alloc (.cells #[.map (some w3.heap.size)] 59))) := ((Kept.refl _ w3).alloc _).alloc _
    have HM5 : Hid (((w3.alloc (.map (σ.es.map En.ent).toArray clock)).alloc (.cells #[.map (some w3.heap.size)] 59)).heap[w3.heap.size]? = some (.map (σ.es.map En.ent).toArray clock)) := alloc_old (alloc_new w3 _ rfl)
    have HB5 : Hid (((w3.alloc (.map (σ.es.map En.ent).toArray clock)).alloc (.cells #[.map (some w3.heap.size)] 59)).heap[w3.heap.size + 1]? = some (.cells #[.map (some w3.heap.size)] 59 (0, 0))) := alloc_new _ _ (by simp)
    have hs5 : ((w3.alloc (.map (σ.es.map En.ent).toArray clock)).alloc (.cells #[.map (some w3.heap.size)] 59)).heap.size = w3.heap.size + 2 := by simp
    rw [hs3] at HK5 HM5 HB5 hs5
    go_wp2
    generalize (w3.alloc (.map (σ.es.map En.ent).toArray clock)).alloc (.cells #[.map (some (w2.heap.size + 1))] 59) = w5 at *
    go_ret
    refine ⟨w2.heap.size, w2.heap.size + 1 + 1, w2.heap.size + 1, clock, ds, ao, cap, ?_, ⟨⟨?_, fun _ => ⟨?_, HM5.out, HMP.out.len, HMP.out.low, HMP.out.nd⟩, HMP.out.len, fun i d hd => ?_, fun d hd => HPM.out.mem_iff.1 (List.mem_map.2 ⟨d, hd, rfl⟩)⟩, HPM.out, (by omega), (by omega), (by omega), fun g o h => (by have := HGE.out g o h; simp at this; omega), HK3.out.trans HK5.out⟩⟩
    · rfl
    · exact HK5.out.cell ((cell_block _ _ _ _ _ _ HB1.out).trans rfl) (fun f => f)
    · exact (cell_block _ _ _ _ _ _ HB5.out).trans rfl
    · obtain ⟨g, o, hg, hr⟩ := HRW.out i d hd
      exact ⟨g, o, hg, fun j u hj => HK5.out.cell (HKR.out.cell (hr j u hj) (fun f => f)) (fun f => f)⟩
set_option maxHeartbeats 1000000 in
theorem all_full {w : World} {s : Nat} {mv : Value} {σ : Sg} (h : Stor w s mv σ) (hn : σ.es.length ≤ 1000000000) : Calls Tryd.prog 37 #[.pointer (some ⟨s, 0, none⟩)] w fun e w' => ∃ B0 B1 B2 r clock ds ao cap, e = .returned (.func (.func 43) #[] #[.pointer (some ⟨B0, 0, none⟩)]) ∧ RowOf w w' σ.es B1 B2 r clock ds ao cap ∧ w'.cell? ⟨B0, 0, none⟩ = some (.func (.func 53) #[] #[.pointer (some ⟨B1, 0, none⟩), .pointer (some ⟨B2, 0, none⟩)]) ∧ B0 < w'.heap.size := by
  have HR := hid_of (row_full h hn)
  clear h
  go_enter Tryd.func37, Tryd.ntmps37
  go_wp2_with fail
  refine HR.out.mono ?_
  rintro e w1 ⟨B1, B2, r, clock, ds, ao, cap, rfl, ho⟩
  have HO := hid_of ho
  have HK : Hid (Kept (fun _ => False) w1 (w1.alloc (.cells #[.func (.func 53) #[] #[.pointer (some ⟨B1, 0, none⟩), .pointer (some ⟨B2, 0, none⟩)]] 73))) := (Kept.refl _ w1).alloc _
  have HB : Hid ((w1.alloc (.cells #[.func (.func 53) #[] #[.pointer (some ⟨B1, 0, none⟩), .pointer (some ⟨B2, 0, none⟩)]] 73)).heap[w1.heap.size]? = some (.cells #[.func (.func 53) #[] #[.pointer (some ⟨B1, 0, none⟩), .pointer (some ⟨B2, 0, none⟩)]] 73 (0, 0))) := alloc_new _ _ rfl
  clear ho HR
  go_wp2
  generalize w1.alloc (.cells #[.func (.func 53) #[] #[.pointer (some ⟨B1, 0, none⟩), .pointer (some ⟨B2, 0, none⟩)]] 73) = w2 at *
  go_ret
  have hsz := HK.out.size
  have ho := HO.out
  have h1 := ho.n1
  have h2 := ho.n2
  have h3 := ho.n3
  refine ⟨w1.heap.size, B1, B2, r, clock, ds, ao, cap, rfl, ⟨ho.at_.keep (Z := fun _ => True) (KeepsB.of_kept HK.out) trivial trivial trivial (fun _ _ _ => trivial), ho.perm, by omega, by omega, by omega, (fun g o h => by have := ho.n4 g o h; omega), ho.kp.trans HK.out⟩, (cell_block _ _ _ _ _ _ HB.out).trans rfl, heap_lt HB.out⟩
end Go.Proofs.YtjdbmjkidljhpaaDoor

namespace Go.Proofs.YtjdbmjkidljhpaaDoor
open Go.RowKit Go.Shelf
attribute [local go_sem] Oper.semAt_some
set_option linter.unusedVariables false
set_option linter.unusedSimpArgs false
set_option maxRecDepth 100000

theorem total_perm : ∀ {l m : List En}, l.Perm m → total l = total m := fun h => by
  induction h with
  | nil => rfl
  | cons x _ ih => rw [total, total, ih]
  | swap x y l => rw [total, total, total, total]; omega
  | trans _ _ h1 h2 => rw [h1, h2]
theorem total_snoc : ∀ (l : List En) (e : En), total (l ++ [e]) = total l + ((e.xs.length : Int) + 32)
  | [], e => by simp [total]
  | x :: l, e => by rw [List.cons_append, total, total, total_snoc l e]; omega
theorem total_le : ∀ (l : List En), (∀ e ∈ l, e.xs.length ≤ 1048576) → total l ≤ (l.length : Int) * 1048608
  | [], _ => by simp [total]
  | e :: l, h => by
    have h1 := total_le l (fun x hx => h x (List.mem_cons_of_mem _ hx))
    have h2 := h e (List.mem_cons_self ..)
    rw [total, List.length_cons]
    omega
theorem key_inj : ∀ {es : List En}, (es.map En.k).Nodup → ∀ {x y : En}, x ∈ es → y ∈ es → x.k = y.k → x = y
  | [], _, x, y, hx, _, _ => by cases hx
  | a :: es, h, x, y, hx, hy, e => by
    rw [List.map_cons, List.nodup_cons] at h
    rcases List.mem_cons.1 hx with h1 | h1
    · rcases List.mem_cons.1 hy with h2 | h2
      · rw [h1, h2]
      · exact absurd (show a.k ∈ es.map En.k by rw [← h1, e]; exact List.mem_map.2 ⟨y, h2, rfl⟩) h.1
    · rcases List.mem_cons.1 hy with h2 | h2
      · exact absurd (show a.k ∈ es.map En.k by rw [← h2, ← e]; exact List.mem_map.2 ⟨x, h1, rfl⟩) h.1
      · exact key_inj h.2 h1 h2 e
theorem Stor.keys {w : World} {s : Nat} {mv : Value} {σ : Sg} (h : Stor w s mv σ) : (σ.es.map En.k).Nodup := by
  rcases h.map with ⟨_, h1⟩ | ⟨r, c, _, _, _, h3⟩
  · rw [h1]; exact List.nodup_nil
  · exact h3.2.2
/-- What came is what lies there, in another order. -/
theorem came_all {es : List En} (hnd : (es.map En.k).Nodup) {ds : List Dg} (hp : (ds.map (·.1)).Perm (es.map En.k)) (ys : List (Eb es)) (hy : ys.map (·.1.1.1.k) = ds.map (·.1)) : (ys.map (·.1.1.1)).Perm es := by
  have hk : (ys.map (·.1.1.1)).map En.k = ds.map (·.1) := by rw [List.map_map]; exact hy
  refine perm_nodup ?_ (nodup_of_map En.k hnd) (fun x => ⟨fun h => ?_, fun h => ?_⟩)
  · refine nodup_of_map En.k ?_
    rw [hk]
    exact (hp.nodup_iff).2 hnd
  · obtain ⟨y, _, rfl⟩ := List.mem_map.1 h
    exact y.1.1.2
  · have h1 : x.k ∈ ds.map (·.1) := hp.mem_iff.2 (List.mem_map.2 ⟨x, h, rfl⟩)
    rw [← hy] at h1
    obtain ⟨y, hy1, hy2⟩ := List.mem_map.1 h1
    have : y.1.1.1 = x := key_inj hnd y.1.1.2 h hy2
    exact List.mem_map.2 ⟨y, hy1, this⟩
theorem len_full {w : World} {s : Nat} {mv : Value} {σ : Sg} (h : Stor w s mv σ) : Calls Tryd.prog 25 #[.pointer (some ⟨s, 0, none⟩)] w fun e w' => e = .returned (.int .i64 (σ.es.length : Int)) ∧ w' = w := by
  have c' : w.cell? ⟨s, 2, none⟩ = some mv := h.cell 2
  have HL : Hid (∀ ty, (Builtin.len_ #[59] ty #[mv]).run Tryd.prog w = .ok (.int .i64 (σ.es.length : Int)) w) := fun ty => by
    rcases h.map with ⟨h1, h2⟩ | ⟨r, c, h1, h2, _⟩
    · rw [h1, h2]
      simp [Builtin.len_, run_underlying Tryd.underlying59]
      rfl
    · rw [h1]
      simp [Builtin.len_, run_underlying Tryd.underlying59, getObj, Sem.run, h2]
      rfl
  clear h
  have hl := HL.out 3
  go_enter Tryd.func25, Tryd.ntmps25
  go_wp2
  go_ret
  exact ⟨rfl, rfl⟩

set_option maxHeartbeats 8000000 in
theorem reck_any {w : World} {s : Nat} {mv : Value} {σ : Sg} (h : Stor w s mv σ) (hu : σ.us = total σ.es) (ht : σ.us ≤ 67108864) (hn : σ.es.length ≤ 1000000000) :
    Calls Tryd.prog 20 #[.pointer (some ⟨s, 0, none⟩)] w fun e w' => e = .returned (.bool true) ∧ Kept (fun _ => False) w w' := by
  have HA := hid_of (all_full h hn)
  have HST := hid_of h
  have HND := hid_of h.keys
  have HU := hid_of hu
  clear h hu
  refine (callsIn_wide (n := 8)).1 ?_
  refine callsIn_of_wp_marks Tryd.func20 rfl trivial ?_ rfl
  simp only [Tryd.ntmps20, List.size_toArray, List.length_cons, List.length_nil, Nat.reduceAdd, Nat.reduceSub, Array.replicate_succ, Array.replicate_zero, List.push_toArray, List.append_toArray, List.nil_append, List.cons_append]
  gi_wp2_with fail
  refine ⟨trivial, (callsIn_wide.2 HA.out).mono ?_⟩
  rintro e w1 ⟨B0, B1, B2, r, clock, ds, ao, cap, rfl, hro, hf, hB0⟩
  have HRO := hid_of hro
  have HF := hid_of hf
  have hB0' := hB0
  clear hro hf HA
  have HQ : ∀ (W : World) (a : Addr), (binOp .eql 73 (.func (.func 43) #[] #[.pointer (some a)]) Value.nilFunc).run Tryd.prog W = .ok (.bool false) W := fun W a => rfl
  gi_wp2
  clear HQ
  have b1 : Boxed ((w1.alloc (.cells #[.int .i64 0] 3)).alloc (.cells #[.int .i64 0] 3)) w1.heap.size 3 (.int .i64 0) := (Boxed.new w1 3 _).alloc _
  have b2 : Boxed ((w1.alloc (.cells #[.int .i64 0] 3)).alloc (.cells #[.int .i64 0] 3)) (w1.heap.size + 1) 3 (.int .i64 0) := alloc_new _ _ (by simp)
  have hbl : Below w1.heap.size w1 ((w1.alloc (.cells #[.int .i64 0] 3)).alloc (.cells #[.int .i64 0] 3)) := ((Below.refl _ w1).alloc (Nat.le_refl _) _).alloc (by simp) _
  have hsz : ((w1.alloc (.cells #[.int .i64 0] 3)).alloc (.cells #[.int .i64 0] 3)).heap.size = w1.heap.size + 2 := by simp
  generalize (w1.alloc (.cells #[.int .i64 0] 3)).alloc (.cells #[.int .i64 0] 3) = w3 at *
  have hk1 := HRO.out.kp
  have hw1 := hk1.size
  have HSEQ : Hid (SeqOwn 7 43 #[.pointer (some ⟨B0, 0, none⟩)] (fun x : Eb σ.es => #[dv x.1.1.1.k, x.1.2]) (fun k => k = w1.heap.size ∨ k = w1.heap.size + 1) (fun ys => ys.map (·.1.1.1.k) = ds.map (·.1)) ds.length w1) :=
    all1_seq _ (fun k => k < w1.heap.size) (fun k hk e => by omega) 7 (by omega) B0 B1 B2 r clock σ.es ds ao cap w1 HRO.out.at_ HRO.out.n1.2 HRO.out.n2.2 HRO.out.n3.2 (fun g o e => (HRO.out.n4 g o e).2) (fun k hk => hk) (by
      have := HRO.out.perm.length_eq
      rw [List.length_map, List.length_map] at this
      omega) hB0 HF.out (fun e he => by
      obtain ⟨h1, h2, h3, h4⟩ := HST.out.blob e he
      exact ⟨h1.kept2 hk1 (fun _ _ _ f => f), h3, fun h0 g hg => by have := h1.blt h0 g hg; omega⟩)
  have HLE : Hid (∀ e ∈ σ.es, e.xs.length ≤ 1048576) := fun e he => (HST.out.blob e he).2.2.1
  have HDL : Hid (ds.length = σ.es.length) := by
    have := HRO.out.perm.length_eq
    rw [List.length_map, List.length_map] at this
    exact this
  have HB := hid_of (And.intro b1 (And.intro b2 hbl))
  clear b1 b2 hbl hk1
  refine range_seq (by omega) (gf := 43) (lb := #[.pointer (some ⟨B0, 0, none⟩)]) rfl (enters_of Tryd.func43 (by kernel_rfl) rfl) HSEQ.out (fun k hk => by omega) (HB.out.2.2) (fun x => by rfl)
    (fun pre W => (Boxed W w1.heap.size 3 (.int .i64 (pre.length : Int)) ∧ Boxed W (w1.heap.size + 1) 3 (.int .i64 (total (pre.map (·.1.1.1))))) ∧ Below w1.heap.size w1 W ∧ w1.heap.size + 2 ≤ W.heap.size) ?hI ?h0
    (fun x => #[.pointer (some ⟨s, 0, none⟩), undef, .bool false, .func (.func 43) #[] #[.pointer (some ⟨B0, 0, none⟩)], .pointer (some ⟨w1.heap.size, 0, none⟩), .pointer (some ⟨w1.heap.size + 1, 0, none⟩), undef, x.1.2, .pointer (some ⟨s, 0, none⟩), .func (.func 43) #[] #[.pointer (some ⟨B0, 0, none⟩)], .func (.func 43) #[] #[.pointer (some ⟨B0, 0, none⟩)], .bool false, .func (.func 43) #[] #[.pointer (some ⟨B0, 0, none⟩)], .agg (x.1.1.1.k.map (Value.int .u8)).toArray, x.1.2, undef, undef, undef, undef, undef, undef, undef, undef, undef, undef, undef, undef, undef, undef, undef, undef, undef])
    ?assign ?body ?done
  case hI =>
    rintro pre A C rw ⟨⟨h1, h2⟩, h3, h4⟩ hg hr
    exact ⟨⟨box_stay h1 hg hr, box_stay h2 hg hr⟩, h3.grown hg h3.size (fun k e => by have := (hr k e).1; omega), Nat.le_trans h4 hg.size⟩
  case h0 => exact ⟨⟨HB.out.1, HB.out.2.1⟩, HB.out.2.2, by omega⟩
  case assign =>
    intro l x W K hK
    gi_wp2
    exact hK
  case body =>
    rintro l pre x W ⟨⟨h1, h2⟩, h3, h4⟩ hlt
    obtain ⟨ax, cx, hx⟩ := x.2
    have hT1 : total ((pre ++ [x]).map (·.1.1.1)) = total (pre.map (·.1.1.1)) + ((x.1.1.1.xs.length : Int) + 32) := by
      rw [List.map_append]
      exact total_snoc _ _
    have hN1 : (((pre ++ [x]).length : Nat) : Int) = (pre.length : Int) + 1 := by simp
    have hT0 := total_nonneg (pre.map (·.1.1.1))
    have hT2 := total_le (pre.map (·.1.1.1)) (fun e he => by obtain ⟨y, _, rfl⟩ := List.mem_map.1 he; exact HLE.out _ y.1.1.2)
    rw [List.length_map] at hT2
    have hxl := HLE.out _ x.1.1.2
    have hdl := HDL.out
    rw [hT1, hN1, hx]
    clear hT1 hN1 hx
    generalize total (pre.map (·.1.1.1)) = tot at *
    generalize x.1.1.1.xs.length = xl at *
    have hp : pre.length ≤ 1000000000 := by omega
    generalize pre.length = pl at *
    have wr1 : IntKind.i64.wrap ((pl : Int) + 1) = (pl : Int) + 1 := by rw [IntKind.wrap_i64]; omega
    have wr2 : IntKind.i64.wrap (tot + (xl : Int)) = tot + (xl : Int) := by rw [IntKind.wrap_i64]; omega
    have wr3 : IntKind.i64.wrap (tot + (xl : Int) + 32) = tot + (xl : Int) + 32 := by rw [IntKind.wrap_i64]; omega
    have hc1 := h1.cell
    have hf1 := h1.frozen
    have h2' := h2.other (B' := w1.heap.size) (by omega) (.int .i64 ((pl : Int) + 1))
    have hc2 := h2'.cell
    have hf2 := h2'.frozen
    have H1 := hid_of h1
    have H2 := hid_of h2'
    have H3 := hid_of h3
    clear h1 h2 h2' h3 hT2 hT0
    gi_wp2
    refine ⟨((kept_set W ⟨w1.heap.size, 0, none⟩ _).mono (fun _ _ e => .inl e)).trans ((kept_set _ ⟨w1.heap.size + 1, 0, none⟩ _).mono (fun _ _ e => .inr e)), ⟨(H1.out.set _).other (by omega) _, ?_⟩, (H3.out.setCell (p := ⟨w1.heap.size, 0, none⟩) (by simp) _).setCell (p := ⟨w1.heap.size + 1, 0, none⟩) (by simp) _⟩
    have h9 := H2.out.set (.int .i64 (tot + (xl : Int) + 32))
    rw [show tot + ((xl : Int) + 32) = tot + (xl : Int) + 32 by omega]
    exact h9
  case done =>
    rintro D ys W hD hS ⟨⟨h1, h2⟩, h3, h4⟩ hK
    have hpm := came_all HND.out HRO.out.perm ys hS
    have htt := total_perm hpm
    have hll := hpm.length_eq
    rw [List.length_map] at hll
    rw [htt, ← HU.out] at h2
    rw [hll] at h1
    have hkW : Kept (fun _ => False) w W := HRO.out.kp.step (T := fun k => w1.heap.size ≤ k) ⟨h3.os, h3.tape, h3.output, h3.size, fun k hk hn => h3.block k (by omega)⟩ (fun i hi e => by omega)
    have HKW := hid_of hkW
    have HLN : Hid (∀ q, Calls Tryd.prog 25 #[.pointer (some ⟨s, 0, none⟩)] (W.drewN q) fun e w' => e = .returned (.int .i64 (σ.es.length : Int)) ∧ w' = W.drewN q) := fun q => len_full (HST.out.kept (kept_drewN hkW q) (fun _ _ f => f))
    have HUS : Hid (∀ q, Calls Tryd.prog 18 #[.pointer (some ⟨s, 0, none⟩)] (W.drewN q) fun e w' => e = .returned (.int .i64 σ.us) ∧ w' = W.drewN q) := fun q => used_any (HST.out.kept (kept_drewN hkW q) (fun _ _ f => f))
    have hc1 := h1.cell
    have hc2 := h2.cell
    have HK := hid_of hK
    clear hS h1 h2 h3 hK hpm htt hll hkW
    gi_wp2
    refine wpIn_wide.2 ?_
    go_quiet (first | (go_at_call 25; exact (HLN.out _).mono (fun _ _ h => ⟨h.1, _, h.2⟩)) | (go_at_call 18; exact (HUS.out _).mono (fun _ _ h => ⟨h.1, _, h.2⟩)))
    gi_wp2
    refine ⟨by simp, .inl ⟨_, _, rfl, run_takeDeferred (show (W.drewN nq).heap[D]? = _ from HK.out), ?_⟩⟩
    refine ⟨_, results_tmp rfl _ _ _, rfl, ?_⟩
    have hk := kept_drewN HKW.out nq
    refine ⟨hk.os, hk.tape, hk.output, ?_, fun k hkk hn => (World.putObj_heap_other (by omega)).trans (hk.block k hkk hn)⟩
    have := hk.size
    simpa [World.putObj] using this
end Go.Proofs.YtjdbmjkidljhpaaDoor

namespace Go.Proofs.YtjdbmjkidljhpaaDoor
open Go.RowKit
set_option linter.unusedVariables false
set_option linter.unusedSimpArgs false
set_option maxRecDepth 100000

theorem lay_cap {B : Nat} {σ σ' : Sg} {d xs : List Int} (hl : LayOk B σ σ' d xs) (h : usedOf σ d xs ≤ σ.cp) : σ'.us ≤ σ'.cp := by
  obtain ⟨bv, born, _, rfl⟩ := hl
  exact h
theorem lay_us {B : Nat} {σ σ' : Sg} {d xs : List Int} (hl : LayOk B σ σ' d xs) : σ'.us = usedOf σ d xs := by
  obtain ⟨bv, born, _, rfl⟩ := hl
  rfl
theorem used_cost (σ : Sg) (d xs : List Int) : usedOf σ d xs = σ.us + ((xs.length : Int) + 32) - costAt σ.es d := rfl
theorem cost_some {es : List En} {d : List Int} (h : (look es d).isSome = true) : costAt es d = ((rawX es d).length : Int) + 32 := by
  unfold costAt rawX
  cases hl : look es d with
  | none => rw [hl] at h; cases h
  | some e => rfl
theorem cost_none {es : List En} {d : List Int} (h : (look es d).isSome = false) : costAt es d = 0 := by
  unfold costAt
  cases hl : look es d with
  | none => rfl
  | some e => rw [hl] at h; cases h
theorem raw_len {w : World} {s : Nat} {mv : Value} {σ : Sg} (h : Stor w s mv σ) (d : List Int) : (rawX σ.es d).length ≤ 1048576 := by
  unfold rawX
  cases hl : look σ.es d with
  | none => simp
  | some e => exact (h.blob e (look_mem _ _ _ hl).1).2.2.1
theorem put_room (k n : Nat) (h1 : 1 ≤ k) (h2 : k ≤ 32) (hnn : n ≤ 1000000) (σ : Sg) (hS : Sane k n σ) (hc : σ.us ≤ σ.cp) (xs : List Int) (hxr : ∀ x ∈ xs, 0 ≤ x ∧ x < 256) (hn : xs.length ≤ 1048576) :
    ∃ (q : Int) (dr : List Int), dr.length = 32 ∧ ∀ (w : World) (s : Nat) (mv bv : Value), Stor w s mv σ → Laid w → s ≠ 0 → BIn w bv xs →
      Calls Tryd.prog 10 #[.pointer (some ⟨s, 0, none⟩), bv] w fun e w' => e = .returned (.tuple #[dv dr, .int .i64 q]) ∧ ∃ mv' σ', After w w' s mv mv' k (n + 2) σ σ' ∧ σ'.us ≤ σ'.cp ∧ (q ≠ 0 → σ'.us = σ.us) := by
  have hu := hS.us0
  have hu2 := hS.top
  have hp := hS.pt
  have hsp := hS.sp
  have hxs : ∀ (w : World) (s : Nat) (mv bv : Value), Stor w s mv σ → BIn w bv xs → (xs ≠ [] → ∀ g, bv.ownBlock = some g → g ≠ s) := fun w s mv bv hst hb h0 g hg e => by
    obtain ⟨o, x, hc⟩ := hb.u8 h0 g hg
    exact hst.no8 hc (.inl e)
  cases hl : look σ.es (frontOf k xs) with
  | none =>
    by_cases hov : usedOf σ (frontOf k xs) xs ≤ σ.cp
    · refine ⟨0, frontOf k xs, frontOf_len k xs h2, fun w s mv bv hst hL hs0 hb => ?_⟩
      refine (put_ok0 hst hL hs0 k hS.wd h1 h2 bv xs hb hxr hn (hxs w s mv bv hst hb) hp.1 (by omega) hl hu (by omega) hsp.1 (by omega) hov).mono fun e w' ⟨he, mv', σ', hlo, hst', hk, hmv⟩ => ?_
      exact ⟨he, mv', σ', ⟨hst', hk, hmv, hS.put1.lay hlo hov, lay_fr hlo _ (by omega)⟩, lay_cap hlo hov, fun h => absurd rfl h⟩
    · refine ⟨43, zeros32, rfl, fun w s mv bv hst hL hs0 hb => ?_⟩
      refine (put_full0 hst hL hs0 k hS.wd h1 h2 bv xs hb hxr hn (hxs w s mv bv hst hb) hp.1 (by omega) hl hu (by omega) (by omega)).mono fun e w' ⟨he, hst', hk⟩ => ?_
      exact ⟨he, mv, σ.put1, ⟨hst', kept_of_s hk, .inl rfl, hS.put1.more (by omega), fun e he => .inl he⟩, hc, fun _ => rfl⟩
  | some e0 =>
    by_cases hex : e0.xs = xs
    · refine ⟨0, frontOf k xs, frontOf_len k xs h2, fun w s mv bv hst hL hs0 hb => ?_⟩
      refine (put_same hst hL hs0 k hS.wd h1 h2 bv xs hb hxr hn (hxs w s mv bv hst hb) hp.1 (by omega) e0 hl hex).mono fun e w' ⟨he, hst', hk⟩ => ?_
      exact ⟨he, mv, σ.put1, ⟨hst', kept_of_s hk, .inl rfl, hS.put1.more (by omega), fun e he => .inl he⟩, hc, fun _ => rfl⟩
    · cases hwh : wholeB k σ.es (frontOf k xs) with
      | true =>
        refine ⟨44, zeros32, rfl, fun w s mv bv hst hL hs0 hb => ?_⟩
        refine (put_clash hst hL hs0 k hS.wd h1 h2 bv xs hb hxr hn (hxs w s mv bv hst hb) hp.1 (by omega) e0 hl hex hwh).mono fun e w' ⟨he, hst', hk⟩ => ?_
        exact ⟨he, mv, σ.put1, ⟨hst', kept_of_s hk, .inl rfl, hS.put1.more (by omega), fun e he => .inl he⟩, hc, fun _ => rfl⟩
      | false =>
        by_cases hov : usedOf σ (frontOf k xs) xs ≤ σ.cp
        · refine ⟨0, frontOf k xs, frontOf_len k xs h2, fun w s mv bv hst hL hs0 hb => ?_⟩
          refine (put_ok1 hst hL hs0 k hS.wd h1 h2 bv xs hb hxr hn (hxs w s mv bv hst hb) hp.1 (by omega) e0 hl hex hwh hu (by omega) hsp.1 (by omega) hov).mono fun e w' ⟨he, mv', σ', hlo, hst', hk, hmv⟩ => ?_
          exact ⟨he, mv', σ', ⟨hst', hk, hmv, hS.put1.lay hlo hov, lay_fr hlo _ (by omega)⟩, lay_cap hlo hov, fun h => absurd rfl h⟩
        · refine ⟨43, zeros32, rfl, fun w s mv bv hst hL hs0 hb => ?_⟩
          refine (put_full1 hst hL hs0 k hS.wd h1 h2 bv xs hb hxr hn (hxs w s mv bv hst hb) hp.1 (by omega) e0 hl hex hwh hu (by omega) (by omega)).mono fun e w' ⟨he, hst', hk⟩ => ?_
          exact ⟨he, mv, σ.put1, ⟨hst', kept_of_s hk, .inl rfl, hS.put1.more (by omega), fun e he => .inl he⟩, hc, fun _ => rfl⟩

theorem plant_room (k n : Nat) (hnn : n ≤ 1000000) (σ : Sg) (hS : Sane k n σ) (hc : σ.us ≤ σ.cp) (d : List Int) (hd : d.length = 32) (hdr : ∀ x ∈ d, 0 ≤ x ∧ x < 256) (xs : List Int) (hxr : ∀ x ∈ xs, 0 ≤ x ∧ x < 256) (hn : xs.length ≤ 1048576) :
    ∃ q : Int, ∀ (w : World) (s : Nat) (mv bv : Value), Stor w s mv σ → BIn w bv xs →
      Calls Tryd.prog 11 #[.pointer (some ⟨s, 0, none⟩), dv d, bv] w fun e w' => e = .returned (.int .i64 q) ∧ ∃ mv' σ', After w w' s mv mv' k (n + 2) σ σ' ∧ σ'.us ≤ σ'.cp ∧ (q ≠ 0 → σ'.us = σ.us) ∧ (q = 0 → σ'.us = usedOf σ d xs) := by
  have hu := hS.us0
  have hu2 := hS.top
  have hsp := hS.sp
  cases hf : fitsL d σ.wd with
  | false =>
    refine ⟨1, fun w s mv bv hst hb => (plant_arg hst d hd bv xs hb (by omega) hf).mono fun e w' ⟨he, hk⟩ => ?_⟩
    exact ⟨he, mv, σ, ⟨hst.kept hk (fun _ _ f => f), kept_of_no hk, .inl rfl, hS.more (by omega), fun e he => .inl he⟩, hc, fun _ => rfl, fun h => absurd h (by decide)⟩
  | true =>
    by_cases hov : usedOf σ d xs ≤ σ.cp
    · refine ⟨0, fun w s mv bv hst hb => ?_⟩
      refine (plant_ok hst d hd bv xs hb (by omega) hf hxr hdr hn hu (by omega) hsp.1 (by omega) hov (fun h0 g hg e => by obtain ⟨o, x, hc⟩ := hb.u8 h0 g hg; exact hst.no8 hc (.inl e))).mono fun e w' ⟨he, mv', σ', hlo, hst', hk, hmv⟩ => ?_
      exact ⟨he, mv', σ', ⟨hst', hk, hmv, (hS.lay hlo hov).more (by omega), lay_fr hlo _ (Nat.le_refl _)⟩, lay_cap hlo hov, fun h => absurd rfl h, fun _ => lay_us hlo⟩
    · refine ⟨43, fun w s mv bv hst hb => ?_⟩
      refine (plant_full hst d hd bv xs hb (by omega) hf hxr hdr hn hu (by omega) hsp.1 (by omega) (by omega) (fun h0 g hg e => by obtain ⟨o, x, hc⟩ := hb.u8 h0 g hg; exact hst.no8 hc (.inl e))).mono fun e w' ⟨he, hk⟩ => ?_
      exact ⟨he, mv, σ, ⟨hst.kept hk (fun _ _ f => f), kept_of_no hk, .inl rfl, hS.more (by omega), fun e he => .inl he⟩, hc, fun _ => rfl, fun h => absurd h (by decide)⟩

theorem evict_room (k n : Nat) (σ : Sg) (hS : Sane k n σ) (hc : σ.us ≤ σ.cp) (d : List Int) (hd : d.length = 32) :
    ∀ (w : World) (s : Nat) (mv : Value), Stor w s mv σ →
      Calls Tryd.prog 13 #[.pointer (some ⟨s, 0, none⟩), dv d] w fun e w' => e = .returned (.bool (look σ.es d).isSome) ∧ ∃ σ', After w w' s mv mv k n σ σ' ∧ σ'.us ≤ σ'.cp ∧ σ'.us = σ.us - costAt σ.es d := by
  have hu := hS.us0
  have hu2 := hS.top
  cases hl : look σ.es d with
  | none =>
    refine fun w s mv hst => (evict_none hst d hd hl).mono fun e w' ⟨he, hk⟩ => ?_
    exact ⟨he, σ, ⟨hst.kept hk (fun _ _ f => f), kept_of_no hk, .inl rfl, hS, fun e he => .inl he⟩, hc, by unfold costAt; rw [hl]; simp⟩
  | some e0 =>
    refine fun w s mv hst => (evict_some hst d hd e0 hl (by omega) (by omega)).mono fun e w' ⟨he, hst', hk⟩ => ?_
    refine ⟨he, _, ⟨hst', hk, .inl rfl, hS.evict d e0 hl, fun e he => .inl (drops_mem _ _ _ he)⟩, ?_, ?_⟩
    · show σ.us - ((e0.xs.length : Int) + 32) ≤ σ.cp
      omega
    · unfold costAt
      rw [hl]
/-- What CasRoom's loop holds. -/
structure RInv (W wr : World) (s k n : Nat) (mv : Value) (σ : Sg) : Prop where
  st : Stor wr s mv σ
  sane : Sane k n σ
  mvf : ∀ r, mv = .map (some r) → W.heap.size ≤ r
  kp : Kept (fun _ => False) W wr
  sf : W.heap.size ≤ s
  cap : σ.us ≤ σ.cp
theorem RInv.quiet {W wr w' : World} {s k n : Nat} {mv : Value} {σ : Sg} (h : RInv W wr s k n mv σ) (hk : Kept (fun _ => False) wr w') : RInv W w' s k n mv σ := ⟨h.st.kept hk (fun _ _ f => f), h.sane, h.mvf, h.kp.trans hk, h.sf, h.cap⟩
theorem RInv.more {W wr : World} {s k n n' : Nat} {mv : Value} {σ : Sg} (h : RInv W wr s k n mv σ) (hn : n ≤ n') : RInv W wr s k n' mv σ := ⟨h.st, h.sane.more hn, h.mvf, h.kp, h.sf, h.cap⟩
theorem RInv.after {W wr w' : World} {s k n n' : Nat} {mv mv' : Value} {σ σ' : Sg} (h : RInv W wr s k n mv σ) (ha : After wr w' s mv mv' k n' σ σ') (hc : σ'.us ≤ σ'.cp) : RInv W w' s k n' mv' σ' :=
  ⟨ha.st, ha.sane, fun r hr => by
      rcases ha.mv with h1 | ⟨r', h1, h2⟩
      · rw [h1] at hr; exact h.mvf r hr
      · rw [h1] at hr; cases hr; exact Nat.le_trans h.kp.size h2, kept_own h.kp ha.kp h.sf h.mvf, h.sf, hc⟩
theorem few_es {k n : Nat} {σ : Sg} (h : Sane k n σ) : σ.es.length ≤ 1000000000 := by
  have h1 := h.top
  have h2 : ∀ es : List En, (es.length : Int) * 32 ≤ total es := fun es => by
    induction es with
    | nil => simp [total]
    | cons e es ih => rw [total, List.length_cons]; omega
  have h3 := h2 σ.es
  rw [h.us] at h1
  omega
theorem RInv.reck {W wr : World} {s k n : Nat} {mv : Value} {σ : Sg} (h : RInv W wr s k n mv σ) : Calls Tryd.prog 20 #[.pointer (some ⟨s, 0, none⟩)] wr fun e w' => e = .returned (.bool true) ∧ Kept (fun _ => False) wr w' := reck_any h.st h.sane.us h.sane.top (few_es h.sane)
theorem rown_row {W wr w : World} {s k n : Nat} {mv : Value} {σ : Sg} {c10 old : Array Value} (h : RInv W wr s k n mv σ) (hk : Kept (fun _ => False) wr w) (h10 : w.heap[wr.heap.size]? = some (.cells c10 30 (0, 0))) (h11 : w.heap[wr.heap.size + 1]? = some (.cells old 28 (0, 0))) (cs : Array Value) :
    (w.setRow (wr.heap.size + 1) cs).heap[wr.heap.size]? = some (.cells c10 30 (0, 0)) ∧ (w.setRow (wr.heap.size + 1) cs).heap[wr.heap.size + 1]? = some (.cells cs 28 (0, 0)) ∧ RInv W (w.setRow (wr.heap.size + 1) cs) s k n mv σ :=
  ⟨(setRow_other _ _ _ _ (by omega)).trans h10, setRow_heap _ _ _ _ _ _ h11, h.quiet (hk.step (T := fun q => q = wr.heap.size + 1) ⟨rfl, rfl, rfl, by simp, fun i hi hn => setRow_other _ _ _ _ hn⟩ (fun i hi e => by omega))⟩
end Go.Proofs.YtjdbmjkidljhpaaDoor

/-
  Cf2: Csteps2, Cinv, Cfw0.
-/
import Derived.Test.YtjdbmjkidljhpaaDoorCf1
import Derived.Deep.Strs
import Derived.OpenShut
import Derived.ChangeOld
namespace Go.Proofs.YtjdbmjkidljhpaaDoor
open Go.ChangeShapes Go.WideShapes Go.ChangeAt Go.RowKit Go.Deep
set_option linter.unusedVariables false
set_option linter.unusedSimpArgs false
set_option maxRecDepth 100000

/-- One step of a script. -/
structure Stp where
  kd : Int
  bv : Value
  xs : List Int
  cv : Value
  ys : List Int
  d : List Int
  own : Bool
  n : Int
def Stp.cells (t : Stp) : List Value := .int .i64 t.kd :: t.bv :: t.cv :: (t.d.map (Value.int .u8) ++ [.bool t.own, .int .i64 t.n])
structure Stp.Ok (w : World) (t : Stp) : Prop where
  bb : BIn w t.bv t.xs
  br : ∀ x ∈ t.xs, 0 ≤ x ∧ x < 256
  cb : BIn w t.cv t.ys
  cr : ∀ x ∈ t.ys, 0 ≤ x ∧ x < 256
  dl : t.d.length = 32
  dr : ∀ x ∈ t.d, 0 ≤ x ∧ x < 256
  bl : t.xs.length ≤ maxLen
  cl : t.ys.length ≤ maxLen
/-- A value is a slice of steps. -/
def TIs (w : World) (v : Value) (ts : List Stp) : Prop :=
  ∃ ao cap, v = .slice ao ts.length cap ∧ ts.length ≤ maxLen ∧ ∀ i t, ts[i]? = some t → t.Ok w ∧ ∃ g o, ao = some ⟨g, o, none⟩ ∧ w.rangeAt g (o + i * 37) t.cells

theorem cells30 : Tryd.prog.cellsOf 30 = 37 := by kernel_rfl
theorem cells26 : Tryd.prog.cellsOf 26 = 1 := by kernel_rfl
theorem cells28 : Tryd.prog.cellsOf 28 = 32 := by kernel_rfl
theorem cells3 : Tryd.prog.cellsOf 3 = 1 := by kernel_rfl
theorem cells4 : Tryd.prog.cellsOf 4 = 1 := by kernel_rfl
theorem cells5' : Tryd.prog.cellsOf 5 = 1 := by kernel_rfl
section
variable {H : Type} {enc : TypeId × Value → H} {W : World} {base : Nat} {spare : Nat → Bool} {held : Bool}
theorem open_by {fuel : Nat} {v : Value} {x : DataW H × List MemPlace} (h : DataW.trod enc Tryd.prog W base spare held fuel 26 [v] = some x) :
    ∃ xs : List Int, BIn W v xs ∧ (∀ y ∈ xs, 0 ≤ y ∧ y < 256) ∧ xs.length ≤ maxLen := by
  rcases open_ints Tryd.underlying26 Tryd.underlying5 cells5' h with ⟨hcs, _⟩ | ⟨a, len, cap, zs, hcs, hb, hl, hm, hz, _, hcell, hwz⟩
  · cases hcs
    exact ⟨[], ⟨none, 0, rfl, Nat.le_refl _, .inl rfl⟩, fun y hy => (by cases hy), Nat.zero_le _⟩
  · cases hcs
    have hle : len ≤ zs.length := by rw [hz]; split <;> omega
    have hlen : (zs.take len).length = len := by rw [List.length_take]; omega
    refine ⟨zs.take len, ?_, fun y hy => ?_, by rw [hlen]; omega⟩
    · by_cases h0 : len = 0
      · exact ⟨some a, cap, by rw [hlen], by omega, .inl (by rw [h0]; rfl)⟩
      · obtain ⟨b, off, spot⟩ := a
        have hc := hcell 0 (by omega)
        have hspot : spot = none := by simpa [Addr.add] using World.cell?_spot hc
        subst hspot
        refine ⟨_, cap, by rw [hlen], by omega, .inr ⟨b, off, rfl, fun i hi => ?_⟩⟩
        rw [hlen] at hi
        have := hcell i (by omega)
        rw [Addr.add_mid] at this
        rw [this]
        simp [List.getD, List.getElem?_take, hi]
    · have b := bounds_u8 (hwz y (List.mem_of_mem_take hy))
      omega
theorem open_d {fuel : Nat} {cs : List Value} {x : DataW H × List MemPlace} (h : DataW.trod enc Tryd.prog W base spare held fuel 28 cs = some x) : ∃ d : List Int, d.length = 32 ∧ cs = d.map (Value.int .u8) ∧ ∀ y ∈ d, 0 ≤ y ∧ y < 256 := by
  obtain ⟨ys, m, _, _, hlen, hl, hel⟩ := DataW.trod_array Tryd.underlying28 h
  rw [cells28] at hlen
  have key : ∀ i, i < 32 → ∃ n : Int, cs[i]? = some (.int .u8 n) ∧ 0 ≤ n ∧ n < 256 := by
    intro i hi
    have h0 := hel i hi
    rw [cells5', Nat.mul_one, List.getElem?_eq_getElem (by omega)] at h0
    obtain ⟨n, e1, _, hw⟩ := DataW.trod_int Tryd.underlying5 h0
    have := congrArg (fun l => l[0]?) e1
    have b := bounds_u8 hw
    exact ⟨n, by simpa [List.getElem?_take, List.getElem?_drop] using this, b.1, by omega⟩
  refine ⟨cs.map intOf, by simp [hlen], ?_, fun y hy => ?_⟩
  · apply List.ext_getElem?
    intro i
    by_cases hi : i < 32
    · obtain ⟨n, hn, _⟩ := key i hi
      rw [hn]
      simp [hn, intOf]
    · rw [List.getElem?_eq_none (by omega), List.getElem?_eq_none (by simp; omega)]
  · obtain ⟨u, hu, rfl⟩ := List.mem_map.1 hy
    obtain ⟨i, hi, rfl⟩ := List.getElem_of_mem hu
    obtain ⟨n, hn, hn2⟩ := key i (by omega)
    rw [List.getElem?_eq_getElem hi] at hn
    rw [Option.some.inj hn]
    exact hn2
set_option maxRecDepth 100000 in
theorem open_step {fuel : Nat} {cs : List Value} {x : DataW H × List MemPlace} (h : DataW.trod enc Tryd.prog W base spare held fuel 30 cs = some x) : ∃ t : Stp, cs = t.cells ∧ t.Ok W := by
  obtain ⟨ys, n, _, _, hl, hlen, hf⟩ := DataW.trod_struct Tryd.underlying30 h
  rw [cells30] at hl
  match ys, hlen with
  | [y0, y1, y2, y3, y4, y5], _ =>
    have g0 : DataW.trod enc Tryd.prog W base spare held n 3 ((cs.drop 0).take 1) = some y0 := by simpa [cells3] using hf 0 _ rfl
    have g1 : DataW.trod enc Tryd.prog W base spare held n 26 ((cs.drop 1).take 1) = some y1 := by simpa [cells26] using hf 1 _ rfl
    have g2 : DataW.trod enc Tryd.prog W base spare held n 26 ((cs.drop 2).take 1) = some y2 := by simpa [cells26] using hf 2 _ rfl
    have g3 : DataW.trod enc Tryd.prog W base spare held n 28 ((cs.drop 3).take 32) = some y3 := by simpa [cells28] using hf 3 _ rfl
    have g4 : DataW.trod enc Tryd.prog W base spare held n 4 ((cs.drop 35).take 1) = some y4 := by simpa [cells4] using hf 4 _ rfl
    have g5 : DataW.trod enc Tryd.prog W base spare held n 3 ((cs.drop 36).take 1) = some y5 := by simpa [cells3] using hf 5 _ rfl
    have e1 : (cs.drop 1).take 1 = [cs[1]'(by omega)] := by rw [List.drop_eq_getElem_cons (by omega)]; rfl
    have e2 : (cs.drop 2).take 1 = [cs[2]'(by omega)] := by rw [List.drop_eq_getElem_cons (by omega)]; rfl
    obtain ⟨kd, e0, _, wk⟩ := DataW.trod_int Tryd.underlying3 g0
    rw [e1] at g1
    rw [e2] at g2
    obtain ⟨xs, b1, b2, b3⟩ := open_by g1
    obtain ⟨zs, c1, c2, c3⟩ := open_by g2
    obtain ⟨d, d1, d2, d3⟩ := open_d g3
    obtain ⟨own, e4, _⟩ := DataW.trod_bool Tryd.underlying4 g4
    obtain ⟨nn, e5, _, wn⟩ := DataW.trod_int Tryd.underlying3 g5
    refine ⟨⟨kd, cs[1]'(by omega), xs, cs[2]'(by omega), zs, d, own, nn⟩, ?_, ⟨b1, b2, c1, c2, d1, d3, b3, c3⟩⟩
    have q : cs = (cs.drop 0).take 1 ++ ((cs.drop 1).take 1 ++ ((cs.drop 2).take 1 ++ ((cs.drop 3).take 32 ++ ((cs.drop 35).take 1 ++ (cs.drop 36).take 1)))) := by
      apply List.ext_getElem?
      intro i
      simp only [List.getElem?_append, List.length_take, List.length_drop, List.getElem?_take, List.getElem?_drop, hl]
      repeat' split
      all_goals (first | (congr 1; omega) | (rw [List.getElem?_eq_none (by omega)]) | omega)
    rw [e0, e1, e2, d2, e4, e5] at q
    exact q
theorem open_steps {fuel : Nat} {v : Value} {x : DataW H × List MemPlace} (h : DataW.trod enc Tryd.prog W base spare held fuel 22 [v] = some x) : ∃ ts : List Stp, TIs W v ts := by
  rcases open_slice Tryd.underlying22 h with ⟨hcs, _⟩ | ⟨a, len, cap, m, n, D, Pl, hcs, hb, hl, hm, hm', _, hel⟩
  · cases hcs
    exact ⟨[], none, 0, rfl, Nat.zero_le _, fun i t ht => by cases ht⟩
  · cases hcs
    by_cases h0 : len = 0
    · exact ⟨[], some a, cap, by rw [h0]; rfl, Nat.zero_le _, fun i t ht => by cases ht⟩
    · have hlm : len ≤ m := by rw [hm']; split <;> omega
      rw [cells30] at hel
      have hin : Inhabited Stp := ⟨⟨0, .slice none 0 0, [], .slice none 0 0, [], [], false, 0⟩⟩
      obtain ⟨f, hf⟩ := choose_lt (n := len) (p := fun i (y : Stp) => W.cells? base (a.add (i * 37)) 37 = some y.cells ∧ y.Ok W) (fun i hi => by
        obtain ⟨cs', h1, h2⟩ := hel i (by omega)
        obtain ⟨y, rfl, h3⟩ := open_step h2
        exact ⟨y, h1, h3⟩)
      have hcell : ∀ i, i < len → ∀ j, j < 37 → W.cell? ((a.add (i * 37)).add j) = (f i).cells[j]? := fun i hi => (World.cells?_some (hf i hi).1).2.2
      have hlc : ∀ i, i < len → (f i).cells.length = 37 := fun i hi => (World.cells?_some (hf i hi).1).2.1
      obtain ⟨b, off, spot⟩ := a
      have hc0 : W.cell? (((⟨b, off, spot⟩ : Addr).add (0 * 37)).add 0) = some (.int .i64 (f 0).kd) := hcell 0 (by omega) 0 (by omega)
      have hspot : spot = none := by simpa [Addr.add] using World.cell?_spot hc0
      subst hspot
      refine ⟨(List.range len).map f, some ⟨b, off, none⟩, cap, by simp, by simp; omega, fun i t ht => ?_⟩
      have hi : i < len := by
        have := (List.getElem?_eq_some_iff.1 ht).1
        simpa using this
      obtain rfl : f i = t := by simpa [hi] using ht
      refine ⟨(hf i hi).2, b, off, rfl, fun j u hj => ?_⟩
      have hj37 : j < 37 := by
        have := (List.getElem?_eq_some_iff.1 hj).1
        rw [hlc i hi] at this
        exact this
      have := hcell i hi j hj37
      rw [Addr.add_mid, Addr.add_mid, hj] at this
      exact this
end
end Go.Proofs.YtjdbmjkidljhpaaDoor

namespace Go.Proofs.YtjdbmjkidljhpaaDoor
open Go.RowKit
set_option linter.unusedVariables false
set_option linter.unusedSimpArgs false
set_option maxRecDepth 100000

theorem Stor.no37 {w : World} {s B n sz : Nat} {mv v : Value} {σ : Sg} {xs : List Value} (h : Stor w s mv σ) (ho : w.ownsRow B 37 sz v n xs) : ∀ g, v.ownBlock = some g → ¬ Own s mv g := by
  intro g hg hown
  rcases ho.2 with ⟨hv, _⟩ | ⟨g', cap, cur, hv, _, hb, _⟩
  · rw [hv] at hg; cases hg
  · rw [hv] at hg
    cases hg
    rcases hown with e | hm
    · rw [show g' = s from e, h.blk] at hb
      cases hb
    · rcases h.map with ⟨h1, _⟩ | ⟨r, c, h1, h2, _⟩
      · rw [h1] at hm; cases hm
      · rw [h1] at hm
        cases hm
        rw [h2] at hb
        cases hb
theorem own_stays {S : Nat → Prop} {w w' : World} {B e sz n : Nat} {v : Value} {xs : List Value} (ho : w.ownsRow B e sz v n xs) (hk : Kept S w w') (hs : ∀ g, v.ownBlock = some g → ¬ S g) : w'.ownsRow B e sz v n xs := by
  refine ⟨ho.1, ?_⟩
  rcases ho.2 with h | ⟨g, cap, cur, hv, hB, hb, rest⟩
  · exact .inl h
  · exact .inr ⟨g, cap, cur, hv, hB, (hk.block g (heap_lt hb) (hs g (by rw [hv]; rfl))).trans hb, rest⟩
/-- What CasFound's loop holds: the Store at s; the list of what was put; n calls, c entries at most. -/
structure Inv (W wr : World) (s k n c : Nat) (lv mv : Value) (σ : Sg) (ps : List Pt) : Prop where
  st : Stor wr s mv σ
  sane : Sane k n σ
  mvf : ∀ r, mv = .map (some r) → W.heap.size ≤ r
  own : wr.ownsRow W.heap.size 37 33 lv ps.length (flat ps)
  ok : ∀ p ∈ ps, p.Ok wr
  few : ps.length ≤ c
  holds : Holds k σ.es ps
  kp : Kept (fun _ => False) W wr
  sf : W.heap.size ≤ s
  dj : ∀ g, lv.ownBlock = some g → ∀ e ∈ σ.es, e.xs ≠ [] → e.bv.ownBlock ≠ some g
  pl : ∀ p ∈ ps, p.xs ≠ [] → ∀ g, p.bv.ownBlock = some g → g < W.heap.size
variable {W wr w' : World} {s k n c : Nat} {lv mv mv' : Value} {σ σ' : Sg} {ps : List Pt}
theorem Inv.quiet (h : Inv W wr s k n c lv mv σ ps) (hk : Kept (fun _ => False) wr w') : Inv W w' s k n c lv mv σ ps :=
  ⟨h.st.kept hk (fun _ _ f => f), h.sane, h.mvf, own_stays h.own hk (fun _ _ f => f), fun p hp => (h.ok p hp).stays hk (fun _ _ _ _ f => f), h.few, h.holds, h.kp.trans hk, h.sf, h.dj, h.pl⟩
theorem Inv.more (h : Inv W wr s k n c lv mv σ ps) {n' c' : Nat} (hn : n ≤ n') (hc : c ≤ c') : Inv W wr s k n' c' lv mv σ ps :=
  ⟨h.st, h.sane.more hn, h.mvf, h.own, h.ok, Nat.le_trans h.few hc, h.holds, h.kp, h.sf, h.dj, h.pl⟩
theorem Inv.after {n' : Nat} (h : Inv W wr s k n c lv mv σ ps) (ha : After wr w' s mv mv' k n' σ σ') (hh : Holds k σ'.es ps) : Inv W w' s k n' c lv mv' σ' ps :=
  ⟨ha.st, ha.sane, fun r hr => by
      rcases ha.mv with h1 | ⟨r', h1, h2⟩
      · rw [h1] at hr; exact h.mvf r hr
      · rw [h1] at hr; cases hr; exact Nat.le_trans h.kp.size h2,
    own_stays h.own ha.kp (h.st.no37 h.own), fun p hp => (h.ok p hp).stays ha.kp (fun g o x hc => h.st.no8 hc), h.few, hh, kept_own h.kp ha.kp h.sf h.mvf, h.sf, fun g hg e he h0 => by
      rcases ha.fr e he with h1 | h1
      · exact h.dj g hg e h1 h0
      · intro e1
        have := h1 g e1
        have := (h.own.lt g hg).2
        omega, h.pl⟩
/-- As above, but the list is not spoken of any more (it is made anew). -/
theorem Inv.after0 {n' : Nat} (h : Inv W wr s k n c lv mv σ ps) (ha : After wr w' s mv mv' k n' σ σ') : Stor w' s mv' σ' ∧ Sane k n' σ' ∧ (∀ r, mv' = .map (some r) → W.heap.size ≤ r) ∧ PIs w' lv ps ∧ (∀ p ∈ ps, p.Ok w') ∧ Kept (fun _ => False) W w' :=
  have ho := own_stays h.own ha.kp (h.st.no37 h.own)
  have hk : ∀ p ∈ ps, p.Ok w' := fun p hp => (h.ok p hp).stays ha.kp (fun g o x hc => h.st.no8 hc)
  ⟨ha.st, ha.sane, fun r hr => by
      rcases ha.mv with h1 | ⟨r', h1, h2⟩
      · rw [h1] at hr; exact h.mvf r hr
      · rw [h1] at hr; cases hr; exact Nat.le_trans h.kp.size h2,
    pis_own ho hk, hk, kept_own h.kp ha.kp h.sf h.mvf⟩
theorem Inv.pis (h : Inv W wr s k n c lv mv σ ps) : PIs wr lv ps := pis_own h.own h.ok
/-- The list without a digest. -/
theorem Inv.without {w2 : World} {lv' : Value} {n' : Nat} {d : List Int} (h : Inv W wr s k n c lv mv σ ps) (ha : After wr w' s mv mv' k n' σ σ') (hh : Holds k σ'.es (others ps d)) (ho : w2.ownsRow w'.heap.size 37 33 lv' (others ps d).length (flat (others ps d))) (hk : Kept (fun _ => False) w' w2) : Inv W w2 s k n' c lv' mv' σ' (others ps d) := by
  obtain ⟨h1, h2, h3, h4, h5, h6⟩ := h.after0 ha
  exact ⟨h1.kept hk (fun _ _ f => f), h2, h3, own_low ho h6.size, fun p hp => (h5 p (List.mem_filter.1 hp).1).stays hk (fun _ _ _ _ f => f), Nat.le_trans (List.length_filter_le _ _) h.few, hh, h6.trans hk, h.sf, fun g hg e he h0 e1 => by
      have := (h1.blob e he).1.blt h0 g e1
      have := (ho.lt g hg).1
      omega, fun p hp => h.pl p (List.mem_filter.1 hp).1⟩
/-- Where an append lays its row. -/
theorem app_where (W : World) (v : Value) (base : Nat) (ps : List Pt) (p : Pt) (hp : p.d.length = 32) (h1 : p.bv.oneCell' = true) (hown : W.ownsRow base 37 33 v ps.length (flat ps)) (hsz : (ps.length + 1) * 56 ≤ 140737488355328)
    (v' : Value) (w' : World) (hr : (Builtin.append_ #[25, 25] 25 #[v, .slice (some ⟨W.heap.size, 0, none⟩) 1 1]).run Tryd.prog (W.alloc (.cells p.cells.toArray 37)) = .ok v' w') : ∀ g, v'.ownBlock = some g → v.ownBlock = some g ∨ W.heap.size ≤ g := by
  obtain ⟨i0, hi, hz0, hz1, hz2⟩ := info_parts info37
  have hnews : ∀ j u, p.cells[j]? = some u → (W.alloc (.cells p.cells.toArray 37)).cell? ((⟨W.heap.size, 0, none⟩ : Addr).add j) = some u := fun j u hj => by
    rw [Addr.add_mid, cell_block _ _ _ _ _ _ (alloc_new _ _ rfl), Nat.zero_add]
    simpa using hj
  have hone : ∀ u ∈ p.cells, u.oneCell' = true := by
    intro u hu
    unfold Pt.cells at hu
    rcases List.mem_append.1 hu with hu | hu
    · obtain ⟨x, _, rfl⟩ := List.mem_map.1 hu
      rfl
    · rw [List.mem_singleton.1 hu]; exact h1
  have hl : p.cells.length = 1 * i0.size := by rw [Pt.clen hp, hz1]
  have ho1 := hown.alloc (.cells p.cells.toArray 37)
  intro g hg
  rcases id ho1.2 with ⟨rfl, h0⟩ | ⟨g0, cap, cur, rfl, hbg, hg0, hnc, hcm, hcs, htake⟩
  · right
    have hnil : (W.alloc (.cells p.cells.toArray 37)).ownsRow (W.alloc (.cells p.cells.toArray 37)).heap.size 37 33 (.slice none 0 0) ps.length (flat ps) := ⟨ho1.1, .inl ⟨rfl, h0⟩⟩
    obtain ⟨v2, w2, hr2, h22, _, _⟩ := run_append_own (P := Tryd.prog) _ _ 25 25 37 i0 _ 33 56 Tryd.underlying25 hi hz0 hz1 hz2 rfl (by decide) _ ps.length (flat ps) hnil ⟨W.heap.size, 0, none⟩ 1 1 p.cells (by rw [Pt.clen hp]) hnews hone (by unfold maxLen; omega) hsz (Nat.le_refl _)
    rw [hr] at hr2
    cases hr2
    have := (h22.lt g hg).1
    simp at this
    omega
  · by_cases hroom : ps.length + 1 ≤ cap
    · left
      have hfit : ps.length * i0.size + p.cells.length ≤ cur.size := by rw [Pt.clen hp, hcs, hz1]; omega
      have hr2 := run_append_room (P := Tryd.prog) (W.alloc (.cells p.cells.toArray 37)) 25 25 37 i0 Tryd.underlying25 hi g0 ps.length cap cur hg0 ⟨W.heap.size, 0, none⟩ 1 1 p.cells hl hnews hone hroom hfit
      rw [hr] at hr2
      cases hr2
      exact hg
    · right
      have hr2 := run_append_grow (P := Tryd.prog) (W.alloc (.cells p.cells.toArray 37)) 25 25 37 i0 _ Tryd.underlying25 hi hz0 ⟨g0, 0, none⟩ ps.length cap (flat ps) (by rw [ho1.1, hz1]) (ho1.cells (g := g0) rfl) ⟨W.heap.size, 0, none⟩ 1 1 p.cells hl hnews (by omega) (by omega) (growslice_fits (by omega) (by rw [hz2]; exact hsz))
      rw [hr] at hr2
      cases hr2
      have : (W.alloc (.cells p.cells.toArray 37)).heap.size = g := by simpa [Value.ownBlock] using hg
      simp at this
      omega
/-- One entry more. -/
theorem Inv.push {w2 : World} {lv' : Value} {p : Pt} (h : Inv W wr s k n c lv mv σ ps) (hk : Kept (fun q => lv.ownBlock = some q) wr w2) (ho : w2.ownsRow W.heap.size 37 33 lv' (ps ++ [p]).length (flat (ps ++ [p]))) (hw : ∀ g, lv'.ownBlock = some g → lv.ownBlock = some g ∨ wr.heap.size ≤ g) (hp : p.Ok wr) (hpl : p.xs ≠ [] → ∀ g, p.bv.ownBlock = some g → g < W.heap.size) (hh : frontOf k p.xs = p.d ∧ ∃ e, look σ.es p.d = some e ∧ e.xs = p.xs) : Inv W w2 s k n (c + 1) lv' mv σ (ps ++ [p]) := by
  have hst : Stor w2 s mv σ := h.st.kept3 hk (fun e => h.st.no37 h.own s e (.inl rfl)) (fun r hr e => h.st.no37 h.own r e (.inr hr)) (fun e he h0 g hg e2 => h.dj g e2 e he h0 hg)
  have stay : ∀ q : Pt, q.Ok wr → (q.xs ≠ [] → ∀ g, q.bv.ownBlock = some g → g < W.heap.size) → q.Ok w2 := fun q hq hl => ⟨hq.len, hq.bin.kept2 hk (fun h0 g hg e2 => by have := hl h0 g hg; have := (h.own.lt g e2).1; omega), hq.rng, hq.short⟩
  refine ⟨hst, h.sane, h.mvf, ho, fun q hq => ?_, by rw [List.length_append]; have := h.few; simp; omega, fun q hq => ?_, h.kp.step hk (fun i hi e => by have := (h.own.lt i e).1; omega), h.sf, fun g hg e he h0 e1 => ?_, fun q hq => ?_⟩
  · rcases List.mem_append.1 hq with hq | hq
    · exact stay q (h.ok q hq) (h.pl q hq)
    · rw [List.mem_singleton.1 hq]; exact stay p hp hpl
  · rcases List.mem_append.1 hq with hq | hq
    · exact h.holds q hq
    · rw [List.mem_singleton.1 hq]; exact hh
  · rcases hw g hg with h1 | h1
    · exact h.dj g h1 e he h0 e1
    · have := (h.st.blob e he).1.blt h0 g e1
      omega
  · rcases List.mem_append.1 hq with hq | hq
    · exact h.pl q hq
    · rw [List.mem_singleton.1 hq]; exact hpl
def z33 : Array Value := #[.int .u8 0, .int .u8 0, .int .u8 0, .int .u8 0, .int .u8 0, .int .u8 0, .int .u8 0, .int .u8 0, .int .u8 0, .int .u8 0, .int .u8 0, .int .u8 0, .int .u8 0, .int .u8 0, .int .u8 0, .int .u8 0, .int .u8 0, .int .u8 0, .int .u8 0, .int .u8 0, .int .u8 0, .int .u8 0, .int .u8 0, .int .u8 0, .int .u8 0, .int .u8 0, .int .u8 0, .int .u8 0, .int .u8 0, .int .u8 0, .int .u8 0, .int .u8 0, .slice none 0 0]
theorem built_put (d : List Int) (hd : d.length = 32) (ao : Option Addr) (n c : Nat) (xs : List Int) : Tryd.prog.built 37 [(0, .agg (d.map (Value.int .u8)).toArray), (1, .slice ao n c)] = some (Pt.cells ⟨d, .slice ao n c, xs⟩).toArray := by
  have hb : ∀ parts, Tryd.prog.built 37 parts = Instr.fill (#[(0, 32), (32, 1)][·]?) z33 parts := fun parts => by kernel_rfl
  have hz : z33.size = 33 := rfl
  have hz32 : z33[32]? = some (Value.slice none 0 0) := rfl
  have hA : ((d.map (Value.int .u8)).zipIdx.foldl (fun a x => a.setIfInBounds x.2 x.1) z33) = (d.map (Value.int .u8) ++ [Value.slice none 0 0]).toArray := by
    apply Array.ext_getElem?
    intro i
    rw [fold_get _ 0 _ (by simp [hd, hz]) i]
    by_cases h : 0 ≤ i ∧ i < 0 + (d.map (Value.int .u8)).length
    · rw [if_pos h, List.getElem?_toArray, List.getElem?_append_left (by omega)]
      rfl
    · rw [if_neg h]
      simp [hd] at h
      by_cases e : i = 32
      · subst e
        rw [hz32]
        simp [hd]
      · rw [Array.getElem?_eq_none (by omega), Array.getElem?_eq_none (by simp [hd]; omega)]
  have hset : (d.map (Value.int .u8) ++ [Value.slice none 0 0]).set 32 (.slice ao n c) = d.map (Value.int .u8) ++ [.slice ao n c] := by
    rw [List.set_append_right _ _ (by simp [hd])]
    simp [hd]
  rw [hb]
  simp [Instr.fill, Value.cells, hd, hz, hA, hset, Pt.cells]
/-- A pair of a digest and a slice is built. -/
theorem wpList_bput {ops : Array Oper} {rest : List Oper} {o : Oper} {a : Act} {w : World} {Q : Exit → Act → World → Prop} (hg : o.guard = none) (x y : Operand) (ho : o.op = .build 37 #[(0, x), (1, y)]) (d : List Int) (ao : Option Addr) (n c : Nat) (hx : a.eval x = .agg (d.map (Value.int .u8)).toArray) (hy : a.eval y = .slice ao n c) (hd : d.length = 32) (xs : List Int)
    (h : wpList Tryd.prog ops Q rest (a.put o.dst (.agg (Pt.cells ⟨d, .slice ao n c, xs⟩).toArray)) w) : wpList Tryd.prog ops Q (o :: rest) a w := by
  have hb := built_put d hd ao n c xs
  have e : (#[(0, x), (1, y)].map fun (i, z) => (i, a.eval z)).toList = [(0, .agg (d.map (Value.int .u8)).toArray), (1, .slice ao n c)] := by rw [← hx, ← hy]; simp
  refine wpList_build hg 37 _ ho (by rw [e, hb]; rfl) ?_
  rw [e, hb]
  exact h
end Go.Proofs.YtjdbmjkidljhpaaDoor

namespace Go.Proofs.YtjdbmjkidljhpaaDoor
open Go.RowKit
set_option linter.unusedVariables false
set_option linter.unusedSimpArgs false
set_option maxRecDepth 100000

theorem TIs.stays {w w' : World} {v : Value} {ts : List Stp} (h : TIs w v ts) (hk : Kept (fun _ => False) w w') : TIs w' v ts := by
  obtain ⟨ao, cap, rfl, hl, h⟩ := h
  refine ⟨ao, cap, rfl, hl, fun i t ht => ?_⟩
  obtain ⟨h1, g, o, h2, h3⟩ := h i t ht
  exact ⟨⟨h1.bb.kept2 hk (fun _ _ _ f => f), h1.br, h1.cb.kept2 hk (fun _ _ _ f => f), h1.cr, h1.dl, h1.dr, h1.bl, h1.cl⟩, g, o, h2, fun j u hj => hk.cell (h3 j u hj) (fun f => f)⟩
theorem Stp.clen {t : Stp} (h : t.d.length = 32) : t.cells.length = 37 := by simp [Stp.cells, h]
theorem own_row {W wr w : World} {s k n c : Nat} {lv mv : Value} {σ : Sg} {ps : List Pt} {c10 old : Array Value} (h : Inv W wr s k n c lv mv σ ps) (hk : Kept (fun _ => False) wr w) (h10 : w.heap[wr.heap.size]? = some (.cells c10 30 (0, 0))) (h11 : w.heap[wr.heap.size + 1]? = some (.cells old 28 (0, 0))) (cs : Array Value) :
    (w.setRow (wr.heap.size + 1) cs).heap[wr.heap.size]? = some (.cells c10 30 (0, 0)) ∧ (w.setRow (wr.heap.size + 1) cs).heap[wr.heap.size + 1]? = some (.cells cs 28 (0, 0)) ∧ Inv W (w.setRow (wr.heap.size + 1) cs) s k n c lv mv σ ps :=
  ⟨(setRow_other _ _ _ _ (by omega)).trans h10, setRow_heap _ _ _ _ _ _ h11, h.quiet (hk.step (T := fun q => q = wr.heap.size + 1) ⟨rfl, rfl, rfl, by simp, fun i hi hn => setRow_other _ _ _ _ hn⟩ (fun i hi e => by omega))⟩
theorem info30 : (Tryd.prog.info? 30).map (·.size) = some 37 := by kernel_rfl
theorem Stp.one {w : World} {t : Stp} (h : t.Ok w) : t.cells.toArray.all (·.oneCell') = true := by
  apply all_oneCell_toArray
  intro v hv
  unfold Stp.cells at hv
  rcases List.mem_cons.1 hv with rfl | hv
  · rfl
  rcases List.mem_cons.1 hv with rfl | hv
  · exact h.bb.one
  rcases List.mem_cons.1 hv with rfl | hv
  · exact h.cb.one
  rcases List.mem_append.1 hv with hv | hv
  · obtain ⟨x, _, rfl⟩ := List.mem_map.1 hv
    rfl
  · rcases List.mem_cons.1 hv with rfl | hv
    · rfl
    · rw [List.mem_singleton.1 hv]
      rfl
/-- The step's cells, in a block of their own. -/
theorem Stp.at {w : World} {t : Stp} {b : Nat} (h : t.d.length = 32) (hb : w.heap[b]? = some (.cells t.cells.toArray 30 (0, 0))) :
    w.cell? ⟨b, 0, none⟩ = some (.int .i64 t.kd) ∧ w.cell? ⟨b, 1, none⟩ = some t.bv ∧ w.cell? ⟨b, 2, none⟩ = some t.cv ∧ w.rangeAt b 3 (t.d.map (Value.int .u8)) ∧ w.cell? ⟨b, 35, none⟩ = some (.bool t.own) ∧ w.cell? ⟨b, 36, none⟩ = some (.int .i64 t.n) := by
  have hc : ∀ o, w.cell? ⟨b, o, none⟩ = t.cells[o]? := fun o => by rw [cell_block _ _ _ _ _ _ hb]; simp
  refine ⟨hc 0, hc 1, hc 2, fun j u hj => ?_, ?_, ?_⟩
  · have hlt := (List.getElem?_eq_some_iff.1 hj).1
    rw [hc, Nat.add_comm]
    show (t.d.map (Value.int .u8) ++ [.bool t.own, .int .i64 t.n])[j]? = some u
    rw [List.getElem?_append_left hlt]
    exact hj
  · rw [hc]
    show (t.d.map (Value.int .u8) ++ [.bool t.own, .int .i64 t.n])[32]? = _
    rw [List.getElem?_append_right (by simp [h])]
    simp [h]
  · rw [hc]
    show (t.d.map (Value.int .u8) ++ [.bool t.own, .int .i64 t.n])[33]? = _
    rw [List.getElem?_append_right (by simp [h])]
    simp [h]
theorem fresh_full (x y : Int) (w : World) (h0 : -9223372036854775808 ≤ x) (h1 : x ≤ 9223372036854775807) (h2 : -9223372036854775808 ≤ y) (h3 : y ≤ 9223372036854775807) : Calls Tryd.prog 7 #[.int .i64 x, .int .i64 y] w fun e w' => e = .returned (.pointer (some ⟨w.heap.size, 0, none⟩)) ∧ w' = w.alloc (.cells ((Sg.new (1 + x % 32) (y % 67108865)).cells (.map none)) 63) := by
  have HR1 := hid_of (fun W => round_any x 32 W h0 h1 (by decide) (by decide))
  have HR2 := hid_of (fun W => round_any y 67108865 W h2 h3 (by decide) (by decide))
  have b1 := Int.emod_nonneg x (show (32 : Int) ≠ 0 by decide)
  have b2 := Int.emod_lt_of_pos x (show (0 : Int) < 32 by decide)
  have b3 := Int.emod_nonneg y (show (67108865 : Int) ≠ 0 by decide)
  have b4 := Int.emod_lt_of_pos y (show (0 : Int) < 67108865 by decide)
  have HN := hid_of (fun W => new_store (1 + x % 32) (y % 67108865) W (by omega) (by omega) b3 (by omega))
  have hwr : IntKind.i64.wrap (1 + x % 32) = 1 + x % 32 := by rw [IntKind.wrap_i64]; omega
  generalize x % 32 = z at *
  generalize y % 67108865 = cp at *
  go_enter Tryd.func7, Tryd.ntmps7
  go_wp2_with fail
  refine (HR1.out _).mono ?_
  rintro e w1 ⟨rfl, rfl⟩
  go_wp2_with fail
  refine (HR2.out _).mono ?_
  rintro e w2 ⟨rfl, rfl⟩
  go_wp2_with fail
  refine (HN.out _).mono ?_
  rintro e w3 ⟨rfl, rfl⟩
  go_wp2
  go_ret
  exact ⟨rfl, rfl⟩
end Go.Proofs.YtjdbmjkidljhpaaDoor

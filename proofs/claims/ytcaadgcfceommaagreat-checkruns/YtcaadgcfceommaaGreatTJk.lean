import Derived.Test.YtcaadgcfceommaaGreatTJf
import Derived.Test.YtcaadgcfceommaaGreatTTd
namespace Go.Proofs.YtcaadgcfceommaaGreat
open Go.RowKit
set_option linter.unusedVariables false
set_option linter.unusedSimpArgs false
set_option maxRecDepth 100000
structure ReI (nx : Nat → List Int) (n pl : Nat) (l : List Int) (cs : List Bool) : Prop where
 len : cs.length = n
 rg : ∀ y ∈ l, 0 ≤ y ∧ y < n
 snd : ∀ y ∈ l, Plus nx pl y.toNat
 sn2 : ∀ i, i < n → cs.getD i false = true → Plus nx pl i
 cl0 : ∀ y ∈ nx pl, y ∈ l ∨ cs.getD y.toNat false = true
 cl1 : ∀ i, i < n → cs.getD i false = true → ∀ y ∈ nx i, y ∈ l ∨ cs.getD y.toNat false = true
def LdOk (nx : Nat → List Int) (n : Nat) : Prop := ∀ i, i < n → (∀ y ∈ nx i, 0 ≤ y ∧ y < n) ∧ (nx i).length ≤ 4096
theorem ReI.start {nx : Nat → List Int} {n pl : Nat} (h : LdOk nx n) (hp : pl < n) : ReI nx n pl (nx pl) (List.replicate n false) := by
 refine ⟨by simp, (h pl hp).1, fun y hy => ⟨y.toNat, ?_, .refl _⟩, fun i hi hc => ?_, fun y hy => .inl hy, fun i hi hc => ?_⟩
 ·rw [Int.toNat_of_nonneg ((h pl hp).1 y hy).1]; exact hy
 ·rw [rep_false] at hc; cases hc
 ·rw [rep_false] at hc; cases hc
theorem ReI.skip {nx : Nat → List Int} {n pl x : Nat} {l : List Int} {cs : List Bool} (h : ReI nx n pl ((x : Int) :: l) cs) (hx : cs.getD x false = true) : ReI nx n pl l cs := by
 have key : ∀ y : Int, y ∈ (x : Int) :: l ∨ cs.getD y.toNat false = true → y ∈ l ∨ cs.getD y.toNat false = true := fun y hy => by
  rcases hy with e | e
  ·rcases List.mem_cons.1 e with e | e
   ·subst e; right; rw [Int.toNat_natCast]; exact hx
   ·exact .inl e
  ·exact .inr e
 exact ⟨h.len, fun y hy => h.rg y (by simp [hy]), fun y hy => h.snd y (by simp [hy]), h.sn2, fun y hy => key y (h.cl0 y hy), fun i hi hc y hy => key y (h.cl1 i hi hc y hy)⟩
theorem ReI.take {nx : Nat → List Int} {n pl x : Nat} {l : List Int} {cs : List Bool} (hn : LdOk nx n) (h : ReI nx n pl ((x : Int) :: l) cs) : ReI nx n pl (l ++ nx x) (cs.set x true) := by
 have hxn : x < n := by have := (h.rg (x : Int) (by simp)).2; omega
 have hxl : x < cs.length := by rw [h.len]; exact hxn
 have hpx : Plus nx pl x := by have := h.snd (x : Int) (by simp); rwa [Int.toNat_natCast] at this
 have key : ∀ y : Int, y ∈ (x : Int) :: l ∨ cs.getD y.toNat false = true → y ∈ l ++ nx x ∨ (cs.set x true).getD y.toNat false = true := fun y hy => by
  rw [getD_set _ _ _ hxl]
  rcases hy with e | e
  ·rcases List.mem_cons.1 e with e | e
   ·subst e; right; rw [Int.toNat_natCast, if_pos rfl]
   ·exact .inl (List.mem_append.2 (.inl e))
  ·right; split
   ·rfl
   ·exact e
 refine ⟨by rw [List.length_set]; exact h.len, fun y hy => ?_, fun y hy => ?_, fun i hi hc => ?_, fun y hy => key y (h.cl0 y hy), fun i hi hc y hy => ?_⟩
 ·rcases List.mem_append.1 hy with e | e
  ·exact h.rg y (by simp [e])
  ·exact (hn x hxn).1 y e
 ·rcases List.mem_append.1 hy with e | e
  ·exact h.snd y (by simp [e])
  ·refine hpx.trans (.step (v := y.toNat) ?_ (.refl _))
   rw [Int.toNat_of_nonneg ((hn x hxn).1 y e).1]; exact e
 ·rw [getD_set _ _ _ hxl] at hc
  by_cases e : x = i
  ·subst e; exact hpx
  ·rw [if_neg e] at hc; exact h.sn2 i hi hc
 ·rw [getD_set _ _ _ hxl] at hc
  by_cases e : x = i
  ·subst e; exact .inl (List.mem_append.2 (.inr hy))
  ·rw [if_neg e] at hc; exact key y (h.cl1 i hi hc y hy)
theorem ReI.fin {nx : Nat → List Int} {n pl : Nat} {cs : List Bool} (hn : LdOk nx n) (hp : pl < n) (h : ReI nx n pl [] cs) : ∀ i, i < n → (cs.getD i false = true ↔ Plus nx pl i) := fun i hi => by
 refine ⟨h.sn2 i hi, ?_⟩
 rintro ⟨w, h1, h2⟩
 have hw : w < n ∧ cs.getD w false = true := by
  have h3 := (hn pl hp).1 _ h1
  rcases h.cl0 _ h1 with e | e
  ·cases e
  ·rw [Int.toNat_natCast] at e; exact ⟨by omega, e⟩
 have key : ∀ u v, Star nx u v → u < n → cs.getD u false = true → cs.getD v false = true := fun u v hs => by
  induction hs with
  | refl => exact fun _ h => h
  | step g1 _ ih =>
   intro hu hc
   have h3 := (hn _ hu).1 _ g1
   rcases h.cl1 _ hu hc _ g1 with e | e
   ·cases e
   ·rw [Int.toNat_natCast] at e; exact ih (by omega) e
 exact key w i h2 hw.1 hw.2
def cnx (p : PG) (H : List (List Int)) (i : Nat) : List Int := match p.fns[i]? with
 | some f => callsK f (H.getD i []) f.code.length
 | none => []
theorem cnx_at {p : PG} {H : List (List Int)} {i : Nat} {f : FN} (hf : p.fns[i]? = some f) : cnx p H i = callsK f (H.getD i []) f.code.length := by
 unfold cnx
 rw [hf]
theorem cnx_ok {p : PG} (hall : ∀ f ∈ p.fns, FnOk p f) (H : List (List Int)) : LdOk (cnx p H) p.fns.length := fun i hi => by
 have hf : p.fns[i]? = some p.fns[i] := List.getElem?_eq_getElem hi
 have hfo := hall _ (List.mem_of_getElem? hf)
 rw [cnx_at hf]
 refine ⟨fun y hy => ?_, Nat.le_trans (callsK_len _ _ _) hfo.n.2⟩
 obtain ⟨k, x, hk, hx, h17, _, rfl⟩ := (callsK_mem _ _ _ _).1 hy
 have := steps_call p _ hfo _ (List.mem_of_getElem? (steps_at (p := p) hx)) h17
 exact this
theorem mem_congr_star {nx nx' : Nat → List Int} {R : Nat → Prop} (hcl : ∀ u, R u → ∀ v : Nat, (v : Int) ∈ nx u → R v) (he : ∀ u, R u → ∀ y, y ∈ nx u ↔ y ∈ nx' u) {u v : Nat} (h : Star nx u v) : R u → Star nx' u v := by
 induction h with
 | refl => exact fun _ => .refl _
 | step h1 _ ih => exact fun hu => .step ((he _ hu _).1 h1) (ih (hcl _ hu _ h1))
theorem plus_congr {nx nx' : Nat → List Int} {R : Nat → Prop} (hcl : ∀ u, R u → ∀ v : Nat, (v : Int) ∈ nx u → R v) (he : ∀ u, R u → ∀ y, y ∈ nx u ↔ y ∈ nx' u) {u : Nat} (hu : R u) (v : Nat) : Plus nx u v ↔ Plus nx' u v := by
 have hcl' : ∀ u, R u → ∀ v : Nat, (v : Int) ∈ nx' u → R v := fun u hu v hv => hcl u hu v ((he u hu _).2 hv)
 constructor
 ·rintro ⟨w, h1, h2⟩
  exact ⟨w, (he u hu _).1 h1, mem_congr_star hcl he h2 (hcl u hu w h1)⟩
 ·rintro ⟨w, h1, h2⟩
  exact ⟨w, (he u hu _).2 h1, mem_congr_star hcl' (fun u hu y => (he u hu y).symm) h2 (hcl' u hu w h1)⟩
theorem calls_lead {p : PG} {bs : List BD} (h : Bs p bs) {q : Nat} (hq : q < bs.length) (y : Int) : y ∈ leadP bs q ↔ y ∈ cnx p (bs.map BD.hs) q := by
 obtain ⟨f, b, hb⟩ := h.in' hq
 have hod := order_iff hb.ok hb.bd
 have hH : (bs.map BD.hs).getD q [] = b.hs := by
  have := hb.gd
  simp only [List.getD, List.getElem?_map, List.getElem?_eq_getElem hq, Option.map_some, Option.getD_some] at this ⊢
  rw [this]
 rw [cnx_at hb.fn, hH, callsK_mem]
 unfold leadP
 rw [hb.gd]
 constructor
 ·intro hy
  obtain ⟨m, hm, h17, rfl⟩ := named_from b hy
  obtain ⟨m0, m1, m2⟩ := hod.1 m hm
  have hx : f.code[m.toNat]? = some (f.code[m.toNat]'(by omega)) := List.getElem?_eq_getElem (by omega)
  have hs := getD_some (steps_at (p := p) hx)
  rw [hb.ss, hs] at h17 ⊢
  exact ⟨m.toNat, _, by omega, hx, h17, m2, rfl⟩
 ·rintro ⟨i, x, hi, hx, h17, hne, rfl⟩
  have hm := hod.2 i hi hne
  have hs := getD_some (steps_at (p := p) hx)
  have := call_named b hm (by rw [hb.ss, Int.toNat_natCast, hs]; exact h17)
  rw [hb.ss, Int.toNat_natCast, hs] at this
  exact this
theorem lead_plus {p : PG} {bs : List BD} (h : Bs p bs) {q : Nat} (hq : q < bs.length) (i : Nat) : Plus (leadP bs) q i ↔ Plus (cnx p (bs.map BD.hs)) q i :=
 plus_congr (R := fun u => u < bs.length) (fun u hu v hv => by have := lead_rng h u hu _ hv; omega) (fun u hu y => calls_lead h hu y) hq i
theorem ordF_iff {p : PG} {bs : List BD} (h : Bs p bs) (i : Nat) : (i : Int) ∈ ordF bs ↔ i = 0 ∨ Plus (leadP bs) 0 i := by
 obtain ⟨hn, _⟩ := plain_ok p h.pl
 have hN : 0 < bs.length := by rw [h.len]; omega
 obtain ⟨l1, l2, l3, _⟩ := lead_tour h
 constructor
 ·intro hi
  have hR : ∀ n, n < bs.length → Star (leadP bs) 0 n → ∀ m ∈ leadP bs n, 0 ≤ m ∧ m < bs.length ∧ Star (leadP bs) 0 m.toNat := fun n hn hs m hm => by
   have h1 := lead_rng h n hn m hm
   refine ⟨h1.1, h1.2, hs.trans (.step (v := m.toNat) ?_ (.refl _))⟩
   rw [Int.toNat_of_nonneg h1.1]; exact hm
  obtain ⟨_, a2, _⟩ := tour_all (leadP bs) bs.length (fun i => Star (leadP bs) 0 i) hN (.refl 0) hR
  have h1 := (a2 _ hi).2.2
  rw [Int.toNat_natCast] at h1
  by_cases e : i = 0
  ·exact .inl e
  ·exact .inr (h1.plus (Ne.symm e))
 ·have key : ∀ u v, Star (leadP bs) u v → (u : Int) ∈ ordF bs → (v : Int) ∈ ordF bs := fun u v hs => by
   induction hs with
   | refl => exact fun h => h
   | step h1 _ ih => exact fun hu => ih (l3 _ hu _ h1)
  rintro (rfl | hp)
  ·exact l1
  ·exact key 0 i hp.star l1
theorem live_len (o : List Int) : ∀ (l : List Bool), (o.foldl (fun l m => l.set m.toNat true) l).length = l.length := by
 induction o with
 | nil => intro l; rfl
 | cons x o ih => intro l; rw [List.foldl_cons, ih]; simp
theorem live_only : ∀ (o : List Int) (l : List Bool) (m : Nat), (∀ x ∈ o, 0 ≤ x) → (o.foldl (fun l m => l.set m.toNat true) l).getD m false = true → l.getD m false = true ∨ (m : Int) ∈ o
 | [], l, m, _, h => .inl h
 | x :: o, l, m, h0, h => by
  rcases live_only o (l.set x.toNat true) m (fun y hy => h0 y (by simp [hy])) h with h1 | h1
  ·have hx := h0 x (by simp)
   by_cases e : x.toNat = m
   ·right
    have : x = (m : Int) := by omega
    simp [this]
   ·left
    simpa [List.getD, List.getElem?_set, e] using h1
  ·exact .inr (by simp [h1])
theorem live_iff {p : PG} {bs : List BD} (h : Bs p bs) {i : Nat} (hi : i < bs.length) : (factsP p bs).live.getD i false = true ↔ (i : Int) ∈ ordF bs := by
 obtain ⟨l1, l2, l3, _⟩ := lead_tour h
 show (liveP (ordF bs) bs.length).getD i false = true ↔ _
 unfold liveP
 constructor
 ·intro h1
  rcases live_only _ _ _ (fun x hx => (l2 x hx).1) h1 with h2 | h2
  ·rw [rep_false] at h2; cases h2
  ·exact h2
 ·intro h1
  exact live_fold _ _ _ (by simpa using hi) (.inr h1) (fun x hx => (l2 x hx).1)
theorem live_length (p : PG) (bs : List BD) : (factsP p bs).live.length = bs.length := by
 show (liveP (ordF bs) bs.length).length = _
 unfold liveP
 rw [live_len]
 simp
theorem tour_al (nx : Nat → List Int) (N : Nat) (R : Nat → Prop) (hN0 : 0 < N) (hN : (N : Int) + 1 < closedI) (hR0 : R 0) (hR : ∀ n, n < N → R n → ∀ m ∈ nx n, 0 ≤ m ∧ m < N ∧ R m.toNat) : (tourP nx N).again.length = N := by
 have hJ0 : TJ nx N R (tour0 N) (fun _ => False) := ⟨TI.tour0 N R, by simp [tour0], fun m hm => by simp [tour0] at hm, fun m hm => by simp [tour0] at hm, fun i hi h => absurd (by simp [nm, tour0, List.getD, hi]) h, fun x y hx => by simp [tour0] at hx, fun y hy => by simp [tour0] at hy, fun g hg => hg.elim, fun x hx => by simp [tour0] at hx, fun i hi h => absurd (by simp [nm, tour0, List.getD, hi]) h, fun i hi => by simp [tour0] at hi, fun i hi => by simp [tour0] at hi, fun i hi _ => by simp [tour0, List.getD, hi], by simp [tour0], fun pre u post he => by simp [tour0] at he⟩
 have hO := meet_J hN hR N (tour0 N) (fun _ => False) 0 hJ0 hN0 hR0 (by simp [nm, tour0, List.getD, hN0]) (by unfold zc tour0; simp) (fun g hg => hg.elim)
 exact hO.tj.ti.al
theorem again_iff {p : PG} {bs : List BD} (h : Bs p bs) : true ∈ (tourP (leadP bs) bs.length).again ↔ ∃ i : Nat, (i : Int) ∈ ordF bs ∧ Plus (leadP bs) i i := by
 obtain ⟨hn, _⟩ := plain_ok p h.pl
 have hN : 0 < bs.length ∧ bs.length ≤ 64 := by rw [h.len]; omega
 have hR : ∀ n, n < bs.length → (fun _ : Nat => True) n → ∀ m ∈ leadP bs n, 0 ≤ m ∧ m < bs.length ∧ (fun _ : Nat => True) m.toNat := fun n hn _ m hm => by
  have := lead_rng h n hn m hm
  exact ⟨this.1, this.2, trivial⟩
 obtain ⟨t1, t2, _, _⟩ := tour_J (leadP bs) bs.length (fun _ => True) hN.1 (by have := closed_big; omega) trivial hR
 have hal := tour_al (leadP bs) bs.length (fun _ => True) hN.1 (by have := closed_big; omega) trivial hR
 constructor
 ·intro hm
  obtain ⟨i, hi, he⟩ := List.getElem_of_mem hm
  have hg : (tourP (leadP bs) bs.length).again.getD i false = true := by simp [List.getD, List.getElem?_eq_getElem hi, he]
  rw [hal] at hi
  by_cases ho : (i : Int) ∈ ordF bs
  ·exact ⟨i, ho, (t1 i ho).1 hg⟩
  ·rw [t2 i hi ho] at hg; cases hg
 ·rintro ⟨i, hi, hp⟩
  have hg := (t1 i hi).2 hp
  by_cases hl : i < (tourP (leadP bs) bs.length).again.length
  ·simp only [List.getD, List.getElem?_eq_getElem hl, Option.getD_some] at hg
   rw [← hg]
   exact List.getElem_mem hl
  ·simp [List.getD, List.getElem?_eq_none (Nat.le_of_not_lt hl)] at hg
theorem next_nx {p : PG} {bs : List BD} {q : Nat} {f : FN} {b : BD} (hb : BAt p bs q f b) {i : Nat} (hi : (i : Int) ∈ b.order) : nextD p (q : Int) (i : Int) = nxOf b.ss i := by
 obtain ⟨o1, o2, o3⟩ := (order_iff hb.ok hb.bd).1 _ hi
 simp only [Int.toNat_natCast] at o3
 have hil : i < f.code.length := by omega
 have hx : f.code[i]? = some f.code[i] := List.getElem?_eq_getElem hil
 have hF := heights_fit _ _ hb.ok b.hs (body_shape hb.bd).2.2.2
 have hs1 := steps_at (p := p) hx
 obtain ⟨f1, _⟩ := hF.ok i _ hil hs1 o3
 have hid := instr_at hb.fn hx
 have hw := next_way hid (hb.fo.str _ (List.mem_of_getElem? hx)) hil (fault_iff.1 f1).2
 rw [hw]
 unfold nxOf
 rw [hb.ss, getD_some hs1]
 rfl
theorem nx_order {p : PG} {bs : List BD} {q : Nat} {f : FN} {b : BD} (hb : BAt p bs q f b) {i : Nat} (hi : (i : Int) ∈ b.order) : ∀ m ∈ nxOf b.ss i, 0 ≤ m ∧ m < f.code.length ∧ m ∈ b.order := fun m hm => by
 obtain ⟨o1, o2, o3⟩ := (order_iff hb.ok hb.bd).1 _ hi
 simp only [Int.toNat_natCast] at o3
 have hil : i < f.code.length := by omega
 have hx : f.code[i]? = some f.code[i] := List.getElem?_eq_getElem hil
 have hF := heights_fit _ _ hb.ok b.hs (body_shape hb.bd).2.2.2
 have hs1 := steps_at (p := p) hx
 obtain ⟨f1, f2⟩ := hF.ok i _ hil hs1 o3
 unfold nxOf at hm
 rw [hb.ss, getD_some hs1] at hm
 obtain ⟨m0, m1, m2⟩ := f2 m hm
 have hsm := List.mem_of_getElem? hs1
 obtain ⟨g2, _, _⟩ := fault_zero (hb.ok.stb _ hsm) (hb.ok.cp _ hsm) (fun m hm => (hb.ok.nx _ hsm).1 m hm) f1
 refine ⟨m0, m1, ?_⟩
 have := (order_iff hb.ok hb.bd).2 m.toNat (by omega) (by rw [m2]; omega)
 rwa [Int.toNat_of_nonneg m0] at this
theorem loop_iff {p : PG} {bs : List BD} {q : Nat} {f : FN} {b : BD} (hb : BAt p bs q f b) {i : Nat} (hi : i < f.code.length) : (tourP (nxOf (stepsL p f)) f.code.length).again.getD i false = true ↔ b.hs.getD i 0 ≠ -1 ∧ Plus (fun j => nextD p (q : Int) (j : Int)) i i := by
 obtain ⟨e1, e2, e3, hh⟩ := body_shape hb.bd
 have hod := order_iff hb.ok hb.bd
 have hn := hb.ok.pos
 have hR : ∀ i, i < f.code.length → (i : Int) ∈ b.order → ∀ m ∈ nxOf (stepsL p f) i, 0 ≤ m ∧ m < f.code.length ∧ (m.toNat : Int) ∈ b.order := fun i _ hi m hm => by
  rw [← hb.ss] at hm
  have := nx_order hb hi m hm
  refine ⟨this.1, this.2.1, ?_⟩
  rw [Int.toNat_of_nonneg this.1]; exact this.2.2
 obtain ⟨t1, t2, _, _⟩ := tour_J (nxOf (stepsL p f)) f.code.length (fun i => (i : Int) ∈ b.order) (by omega) (by have := closed_big; omega) (zero_ord hb.ok hb.bd) hR
 rw [← e3] at t1 t2
 by_cases ho : (i : Int) ∈ b.order
 ·rw [t1 i ho]
  have hne := (hod.1 _ ho).2.2
  rw [Int.toNat_natCast] at hne
  have hpc := plus_congr (nx := nxOf (stepsL p f)) (nx' := fun j => nextD p (q : Int) (j : Int)) (R := fun j => (j : Int) ∈ b.order) (fun u hu v hv => by
   have h1 := (hod.1 _ hu).2.1
   have := (hR u (by omega) hu _ hv).2.2
   simpa using this) (fun u hu y => by
   show _ ↔ y ∈ nextD p (q : Int) (u : Int)
   rw [next_nx hb hu, hb.ss]) ho i
  exact ⟨fun h => ⟨hne, hpc.1 h⟩, fun h => hpc.2 h.2⟩
 ·rw [t2 i hi ho]
  constructor
  ·intro h; cases h
  ·rintro ⟨h1, _⟩; exact absurd (hod.2 i hi h1) ho
structure Lub (S : Int → Prop) (t M : Int) : Prop where
 lo : t ≤ M
 ub : ∀ x, S x → x ≤ M
 is : M = t ∨ S M
theorem Lub.le {S : Int → Prop} {t M N : Int} (h : Lub S t M) (h' : Lub S t N) : M ≤ N := by
 rcases h.is with e | e
 ·have := h'.lo; omega
 ·exact h'.ub _ e
theorem Lub.uniq {S : Int → Prop} {t M N : Int} (h : Lub S t M) (h' : Lub S t N) : M = N := Int.le_antisymm (h.le h') (h'.le h)
theorem Lub.congr {S S' : Int → Prop} {t M : Int} (h : Lub S t M) (he : ∀ x, S x ↔ S' x) : Lub S' t M :=
 ⟨h.lo, fun x hx => h.ub x ((he x).2 hx), h.is.imp id (fun h => (he _).1 h)⟩
theorem fold_lub (v : Int → Int) : ∀ (l : List Int) (t : Int), Lub (fun x => ∃ m ∈ l, x = v m) t (l.foldl (fun t m => max2 t (v m)) t)
 | [], t => ⟨Int.le_refl _, fun x hx => by obtain ⟨m, hm, _⟩ := hx; simp at hm, .inl rfl⟩
 | m :: l, t => by
  have h := fold_lub v l (max2 t (v m))
  obtain ⟨a1, a2, a3⟩ := max2_ge t (v m)
  refine ⟨Int.le_trans a1 h.lo, fun x hx => ?_, ?_⟩
  ·obtain ⟨k, hk, rfl⟩ := hx
   rcases List.mem_cons.1 hk with rfl | hk
   ·exact Int.le_trans a2 h.lo
   ·exact h.ub _ ⟨k, hk, rfl⟩
  ·rcases h.is with e | ⟨k, hk, e⟩
   ·have e' : (m :: l).foldl (fun t m => max2 t (v m)) t = max2 t (v m) := e
    rcases a3 with a | a
    ·exact .inl (by rw [e', a])
    ·exact .inr ⟨m, by simp, by rw [e', a]⟩
   ·exact .inr ⟨k, by simp [hk], e⟩
def argOf (p : PG) (a : Int) : Int := ((p.fns[a.toNat]?).map (fun f => f.a)).getD 0
def mostK (p : PG) (f : FN) (hs : List Int) (K : Nat → Int) (t : Int) : Nat → Int
 | 0 => t
 | k + 1 => match f.code[k]? with
  | some x => if x.op = 17 ∧ hs.getD k 0 ≠ -1 then max2 (mostK p f hs K t k) (hs.getD k 0 - argOf p x.a + K x.a.toNat) else mostK p f hs K t k
  | none => mostK p f hs K t k
theorem mostK_lub (p : PG) (f : FN) (hs : List Int) (K : Nat → Int) (t : Int) : ∀ k, Lub (fun y => ∃ (i : Nat) (x : IN), i < k ∧ f.code[i]? = some x ∧ x.op = 17 ∧ hs.getD i 0 ≠ -1 ∧ y = hs.getD i 0 - argOf p x.a + K x.a.toNat) t (mostK p f hs K t k)
 | 0 => ⟨Int.le_refl _, fun y hy => by obtain ⟨i, x, hi, _⟩ := hy; omega, .inl rfl⟩
 | k + 1 => by
  have h := mostK_lub p f hs K t k
  have old : ∀ y, (∃ (i : Nat) (x : IN), i < k ∧ f.code[i]? = some x ∧ x.op = 17 ∧ hs.getD i 0 ≠ -1 ∧ y = hs.getD i 0 - argOf p x.a + K x.a.toNat) → ∃ (i : Nat) (x : IN), i < k + 1 ∧ f.code[i]? = some x ∧ x.op = 17 ∧ hs.getD i 0 ≠ -1 ∧ y = hs.getD i 0 - argOf p x.a + K x.a.toNat := fun y ⟨i, x, hi, hx⟩ => ⟨i, x, by omega, hx⟩
  rw [mostK]
  cases hx : f.code[k]? with
  | none =>
   simp only
   refine ⟨h.lo, fun y hy => ?_, h.is.imp id (old _)⟩
   obtain ⟨i, x, hi, hc, hr⟩ := hy
   have e : i ≠ k := fun e => by rw [e, hx] at hc; cases hc
   exact h.ub y ⟨i, x, by omega, hc, hr⟩
  | some x =>
   simp only
   by_cases hc : x.op = 17 ∧ hs.getD k 0 ≠ -1
   ·rw [if_pos hc]
    obtain ⟨a1, a2, a3⟩ := max2_ge (mostK p f hs K t k) (hs.getD k 0 - argOf p x.a + K x.a.toNat)
    refine ⟨Int.le_trans h.lo a1, fun y hy => ?_, ?_⟩
    ·obtain ⟨i, x', hi, hc', h1, h2, h3⟩ := hy
     by_cases e : i = k
     ·subst e
      rw [hx] at hc'
      cases hc'
      rw [h3]; exact a2
     ·exact Int.le_trans (h.ub y ⟨i, x', by omega, hc', h1, h2, h3⟩) a1
    ·rcases a3 with a | a
     ·rw [a]; exact h.is.imp id (old _)
     ·rw [a]; exact .inr ⟨k, x, by omega, hx, hc.1, hc.2, rfl⟩
   ·rw [if_neg hc]
    refine ⟨h.lo, fun y hy => ?_, h.is.imp id (old _)⟩
    obtain ⟨i, x', hi, hc', h1, h2, h3⟩ := hy
    have e : i ≠ k := fun e => by
     subst e
     rw [hx] at hc'
     cases hc'
     exact hc ⟨h1, h2⟩
    exact h.ub y ⟨i, x', by omega, hc', h1, h2, h3⟩
theorem ord_ind {p : PG} {bs : List BD} (h : Bs p bs) (hno : true ∉ (tourP (leadP bs) bs.length).again) (C : Nat → Prop) (hs : ∀ q : Nat, (q : Int) ∈ ordF bs → (∀ m ∈ leadP bs q, C m.toNat) → C q) : ∀ q : Nat, (q : Int) ∈ ordF bs → C q := by
 obtain ⟨l1, l2, l3, l4, l5⟩ := lead_tour h
 have key : ∀ (n : Nat) (pre post : List Int), pre.length = n → ordF bs = pre ++ post → ∀ q : Nat, (q : Int) ∈ pre → C q := by
  intro n
  induction n using Nat.strongRecOn with
  | ind n ih =>
   intro pre post hn he q hq
   obtain ⟨p1, p2, hp⟩ := List.append_of_mem hq
   have he' : ordF bs = p1 ++ (q : Int) :: (p2 ++ post) := by rw [he, hp]; simp
   refine hs q (by rw [he']; simp) (fun m hm => ?_)
   have hm1 := l5 hno p1 q (p2 ++ post) he' m hm
   have hm0 := (l2 m (by rw [he']; simp [hm1])).1
   refine ih p1.length (by rw [← hn, hp]; simp) p1 ((q : Int) :: (p2 ++ post)) rfl he' m.toNat ?_
   rw [Int.toNat_of_nonneg hm0]
   exact hm1
 exact fun q hq => key _ (ordF bs) [] rfl (by simp) q hq
structure CellQ (p : PG) (bs : List BD) (K : Nat → Int) : Prop where
 pos : ∀ q : Nat, (q : Int) ∈ ordF bs → 0 ≤ K q ∧ K q ≤ 64000
 eq : ∀ (q : Nat) (f : FN) (b : BD), (q : Int) ∈ ordF bs → BAt p bs q f b → K q = 1 + f.l + mostK p f b.hs K (topP b) f.code.length
theorem cells_most {p : PG} {bs : List BD} {q : Nat} {f : FN} {b : BD} (hb : BAt p bs q f b) (A : List Int) (g3 : ∀ x ∈ A, 0 ≤ x ∧ x ≤ 64000) : cellsP b (locOf p q) A = 1 + f.l + mostK p f b.hs (fun k => A.getD k 0) (topP b) f.code.length := by
 obtain ⟨l1, l2, l3⟩ := loc_rng hb
 have ht := top_rng hb.ok hb.bd
 have hod := order_iff hb.ok hb.bd
 have hrg : ∀ m ∈ callsP b, 0 ≤ b.hs.getD m.toNat 0 ∧ b.hs.getD m.toNat 0 ≤ 256 ∧ 0 ≤ (b.ss.getD m.toNat st0).tk ∧ (b.ss.getD m.toNat st0).tk ≤ b.hs.getD m.toNat 0 := fun m hm => by
  have h1 := List.mem_filter.1 hm
  have h2 := hs_rng hb.ok hb.bd h1.1
  exact ⟨h2.1, h2.2.1, h2.2.2.1, h2.2.2.2.2 (of_decide_eq_true h1.2)⟩
 have hf := cellF_fold b A 64000 (by omega) g3 (callsP b) (topP b) ht.1 (by omega) hrg
 have hsame : (callsP b).foldl (cellF b A) (topP b) = (callsP b).foldl (fun t m => max2 t (b.hs.getD m.toNat 0 - (b.ss.getD m.toNat st0).tk + A.getD (b.ss.getD m.toNat st0).a.toNat 0)) (topP b) := foldI_same _ _ _ _ (fun m hm a => by
  have h1 := hrg m hm
  have h2 := getD_bnd g3 (by omega) (b.ss.getD m.toNat st0).a.toNat
  unfold cellF
  rw [wrap_id (x := b.hs.getD m.toNat 0 - (b.ss.getD m.toNat st0).tk) (by omega) (by omega), wrap_id (by omega) (by omega)])
 have hL := fold_lub (fun m => b.hs.getD m.toNat 0 - (b.ss.getD m.toNat st0).tk + A.getD (b.ss.getD m.toNat st0).a.toNat 0) (callsP b) (topP b)
 have hM := mostK_lub p f b.hs (fun k => A.getD k 0) (topP b) f.code.length
 have he : (callsP b).foldl (cellF b A) (topP b) = mostK p f b.hs (fun k => A.getD k 0) (topP b) f.code.length := by
  rw [hsame]
  refine (hL.congr (fun y => ?_)).uniq hM
  have htk : ∀ (x : IN), x.op = 17 → 0 ≤ x.a ∧ x.a < p.fns.length → (tkgv p f x).1 = argOf p x.a := fun x h17 ha => by
   unfold tkgv argOf
   rw [if_pos h17, if_pos ha]
   have hlt : x.a.toNat < p.fns.length := by omega
   rw [List.getElem?_eq_getElem hlt]
   rfl
  constructor
  ·rintro ⟨m, hm, e⟩
   have h1 := List.mem_filter.1 hm
   have h17 := of_decide_eq_true h1.2
   obtain ⟨m0, m1, m2⟩ := hod.1 m h1.1
   have hx : f.code[m.toNat]? = some (f.code[m.toNat]'(by omega)) := List.getElem?_eq_getElem (by omega)
   have hs := getD_some (steps_at (p := p) hx)
   have hca := steps_call p f hb.fo _ (List.mem_of_getElem? (steps_at (p := p) hx))
   rw [hb.ss, hs] at h17 e
   refine ⟨m.toNat, _, by omega, hx, h17, m2, ?_⟩
   rw [e, ← htk _ h17 (hca h17)]
   rfl
  ·rintro ⟨i, x, hi, hx, h17, hne, e⟩
   have hs := getD_some (steps_at (p := p) hx)
   have hca := steps_call p f hb.fo _ (List.mem_of_getElem? (steps_at (p := p) hx)) h17
   refine ⟨(i : Int), List.mem_filter.2 ⟨hod.2 i hi hne, ?_⟩, ?_⟩
   ·rw [hb.ss, Int.toNat_natCast, hs]; exact decide_eq_true h17
   ·rw [hb.ss, Int.toNat_natCast, hs, e, ← htk _ h17 hca]
    rfl
 unfold cellsP
 rw [← he, l1, wrap_id (x := 1 + f.l) (by omega) (by omega), wrap_id (by omega) (by omega)]
theorem cell_eq {p : PG} {bs : List BD} (h : Bs p bs) (hno : true ∉ (tourP (leadP bs) bs.length).again) : ∃ K, CellQ p bs K ∧ K 0 = (factsP p bs).cells := by
 obtain ⟨l1, l2, l3, l4, l5⟩ := lead_tour h
 obtain ⟨hn, _⟩ := plain_ok p h.pl
 have hco : (factsP p bs).cells = cellsOfP p bs (ordF bs) := by unfold factsP; simp only; rw [if_neg hno]; rfl
 obtain ⟨A, hA⟩ := nmd ((ordF bs).foldl (fun cs m => cs.set m.toNat (valK p bs cs m)) (List.replicate bs.length 0))
 have hco2 : cellsOfP p bs (ordF bs) = A.getD 0 0 := by rw [hA]; rfl
 have hol : (ordF bs).length ≤ 64 := by
  have h1 := nodup_le bs.length (ordF bs) l4 l2
  have h2 := h.len
  omega
 have g2 := foldK_bnd h (ordF bs) (List.replicate bs.length 0) 0 (by omega) l2 (fun x hx => by rw [List.eq_of_mem_replicate hx]; simp)
 rw [← hA] at g2
 have g3 : ∀ x ∈ A, 0 ≤ x ∧ x ≤ 64000 := fun x hx => by
  have h1 := g2 x hx
  have h2 := mul_mono2 (0 + (ordF bs).length) 64 (by omega)
  exact ⟨h1.1, Int.le_trans h1.2 h2⟩
 have hff := fold_fix (valK p bs) (fun m => leadP bs m.toNat) (fun cs cs' m hd => cells_congr _ _ cs cs' hd) bs.length (fun _ => True) (ordF bs) [] (List.replicate bs.length 0) (by simp) (by simpa using l4) (fun m hm => l2 m (by simpa using hm)) (fun pre m post he x hx => by
  have hm : m ∈ ordF bs := by rw [List.nil_append] at he; rw [he]; simp
  have h0 := (l2 m hm).1
  obtain ⟨u, hu⟩ : ∃ u : Nat, m = (u : Int) := ⟨m.toNat, by omega⟩
  subst hu
  simp only [Int.toNat_natCast] at hx
  exact l5 hno pre u post (by simpa using he) x hx) (fun m hm => by simp at hm) (fun _ _ _ _ => trivial)
 rw [← hA] at hff
 refine ⟨fun q => A.getD q 0, ⟨fun q hq => getD_bnd g3 (by omega) q, fun q f b hq hb => ?_⟩, by rw [hco, hco2]⟩
 have hfix := (hff.2 (q : Int) (by simpa using hq)).1
 rw [Int.toNat_natCast] at hfix
 show A.getD q 0 = _
 rw [hfix, ← cells_most hb A g3]
 unfold valK
 simp only [Int.toNat_natCast]
 rw [hb.gd]
def valU (b : BD) (oth cs : List Int) (m : Int) : Int := 1 + (if (b.ss.getD m.toNat st0).op = 17 then oth.getD (b.ss.getD m.toNat st0).a.toNat 0 else 0) + costM cs (b.ss.getD m.toNat st0).nx 0
def arrU (b : BD) (n : Nat) (oth : List Int) : List Int := b.order.foldl (fun cs m => cs.set m.toNat (valU b oth cs m)) (List.replicate n 0)
theorem costM_congr (cs cs' : List Int) : ∀ (l : List Int) (c : Int), (∀ x ∈ l, cs.getD x.toNat 0 = cs'.getD x.toNat 0) → costM cs l c = costM cs' l c
 | [], c, _ => rfl
 | y :: l, c, h => by
  show costM cs l (max2 c (cs.getD y.toNat 0)) = costM cs' l (max2 c (cs'.getD y.toNat 0))
  rw [h y (by simp)]
  exact costM_congr cs cs' l _ (fun x hx => h x (by simp [hx]))
theorem arrU_congr (b : BD) (n : Nat) (o o' : List Int) (h : ∀ x ∈ namedP b, o.getD x.toNat 0 = o'.getD x.toNat 0) : arrU b n o = arrU b n o' := by
 unfold arrU
 refine fold_same _ _ _ _ (fun m hm a => ?_)
 unfold valU
 by_cases h17 : (b.ss.getD m.toNat st0).op = 17
 ·rw [if_pos h17, if_pos h17, h _ (call_named b hm h17)]
 ·rw [if_neg h17, if_neg h17]
theorem nn_getD {l : List Int} (h : ∀ x ∈ l, 0 ≤ x) (k : Nat) : 0 ≤ l.getD k 0 := by
 by_cases hi : k < l.length
 ·exact h _ (getD_mem hi)
 ·simp [List.getD, List.getElem?_eq_none (Nat.le_of_not_lt hi)]
theorem valU_pos (b : BD) (oth cs : List Int) (m : Int) (ho : ∀ x ∈ oth, 0 ≤ x) : 1 ≤ valU b oth cs m := by
 unfold valU
 have h1 := (costM_ge cs (b.ss.getD m.toNat st0).nx 0).1
 split
 ·have := nn_getD ho (b.ss.getD m.toNat st0).a.toNat
  omega
 ·omega
theorem arrU_spec {ss : List ST} {n : Nat} (hok : SsOk ss n) {b : BD} (hb : bodyD ss n = .ok b) (hl : b.loops = []) (oth : List Int) (ho : ∀ x ∈ oth, 0 ≤ x) : (arrU b n oth).length = n ∧ ∀ i : Nat, (i : Int) ∈ b.order → 1 ≤ (arrU b n oth).getD i 0 ∧ (arrU b n oth).getD i 0 = valU b oth (arrU b n oth) i := by
 obtain ⟨e1, e2, e3, hh⟩ := body_shape hb
 obtain ⟨_, t2, t3⟩ := body_tour hok hb
 have hod := order_iff hok hb
 have hff := fold_fix (valU b oth) (fun m => nxOf ss m.toNat) (fun cs cs' m hd => by
  unfold valU
  rw [costM_congr cs cs' _ _ (fun x hx => hd x (by unfold nxOf; rw [← e1]; exact hx))]) n (fun x => 1 ≤ x) b.order [] (List.replicate n 0) (by simp) (by simpa using t3) (fun m hm => by
  have := hod.1 m (by simpa using hm)
  exact ⟨this.1, this.2.1⟩) (fun pre m post he x hx => by
  have hm : m ∈ b.order := by rw [List.nil_append] at he; rw [he]; simp
  have h0 := (hod.1 m hm).1
  obtain ⟨u, hu⟩ : ∃ u : Nat, m = (u : Int) := ⟨m.toNat, by omega⟩
  subst hu
  simp only [Int.toNat_natCast] at hx
  exact t2 hl pre u post (by simpa using he) x hx) (fun m hm => by simp at hm) (fun pre m post he => valU_pos b oth _ m ho)
 refine ⟨hff.1, fun i hi => ?_⟩
 obtain ⟨h1, h2⟩ := hff.2 (i : Int) (by simpa using hi)
 simp only [Int.toNat_natCast] at h1 h2
 exact ⟨h2, h1⟩
def valT (bs : List BD) (cs : List Int) (m : Int) : Int := (arrU (bs.getD m.toNat bd0) (bs.getD m.toNat bd0).ss.length cs).getD 0 0
def foldU (bs : List BD) (o cs : List Int) : List Int := o.foldl (fun cs m => cs.set m.toNat (valT bs cs m)) cs
def tuL (bs : List BD) : List Int := foldU bs (ordF bs) (List.replicate bs.length 0)
def tuR (bs : List BD) (q : Nat) : List Int := arrU (bs.getD q bd0) (bs.getD q bd0).ss.length (tuL bs)
theorem valT_pos {p : PG} {bs : List BD} (h : Bs p bs) {m : Int} (hm : m.toNat < bs.length) (hl : (bs.getD m.toNat bd0).loops = []) (cs : List Int) (hc : ∀ x ∈ cs, 0 ≤ x) : 1 ≤ valT bs cs m := by
 obtain ⟨f, b, hb⟩ := h.in' hm
 unfold valT
 rw [hb.gd] at hl ⊢
 rw [hb.slen]
 exact ((arrU_spec hb.ok hb.bd hl cs hc).2 0 (zero_ord hb.ok hb.bd)).1
theorem foldU_nn {p : PG} {bs : List BD} (h : Bs p bs) : ∀ (o cs : List Int), (∀ m ∈ o, m.toNat < bs.length ∧ (bs.getD m.toNat bd0).loops = []) → (∀ x ∈ cs, 0 ≤ x) → ∀ x ∈ foldU bs o cs, 0 ≤ x
 | [], cs, _, hc => hc
 | m :: o, cs, ho, hc => by
  have h1 := valT_pos h (ho m (by simp)).1 (ho m (by simp)).2 cs hc
  refine foldU_nn h o (cs.set m.toNat (valT bs cs m)) (fun x hx => ho x (by simp [hx])) (fun x hx => ?_)
  rcases List.mem_or_eq_of_mem_set hx with hx | rfl
  ·exact hc x hx
  ·omega
theorem foldU_keep (bs : List BD) : ∀ (o cs : List Int) (k : Nat), (∀ x ∈ o, x.toNat ≠ k) → (foldU bs o cs).getD k 0 = cs.getD k 0
 | [], cs, k, _ => rfl
 | m :: o, cs, k, h => by
  show (foldU bs o (cs.set m.toNat (valT bs cs m))).getD k 0 = _
  rw [foldU_keep bs o _ k (fun x hx => h x (by simp [hx])), getD_set_ne _ (h m (by simp))]
theorem foldU_len (bs : List BD) : ∀ (o cs : List Int), (foldU bs o cs).length = cs.length
 | [], cs => rfl
 | m :: o, cs => by
  show (foldU bs o (cs.set m.toNat (valT bs cs m))).length = _
  rw [foldU_len bs o]; simp
def capM (x : Int) : Int := if 1099511627776 < x then -1 else x
theorem valPU (b : BD) (others cs : List Int) (m : Int) (k : Nat) (hk : k ≤ 5000) (hO : ∀ x ∈ others, 0 ≤ x ∧ x ≤ 1099511627776) (hcs : ∀ x ∈ cs, 0 ≤ x ∧ x ≤ (k : Int) * 1099511627777) : valP b others cs m = valU b others cs m := by
 have h1 := (valP_bnd b others cs m k hk hO hcs).1
 rw [h1]
 unfold valU costC
 have hk0 : (0 : Int) ≤ (k : Int) * 1099511627777 := by omega
 obtain ⟨m1, m2, m3⟩ := costM_ge cs (b.ss.getD m.toNat st0).nx 0
 have hM := m3 ((k : Int) * 1099511627777) hk0 (fun x hx => (getD_bnd hcs hk0 x.toNat).2)
 obtain ⟨o1, o2⟩ := getD_bnd hO (by omega) (b.ss.getD m.toNat st0).a.toNat
 split
 ·rw [wrap_id (by omega) (by omega)]
  omega
 ·omega
theorem foldPU (b : BD) (others : List Int) (hO : ∀ x ∈ others, 0 ≤ x ∧ x ≤ 1099511627776) : ∀ (o cs : List Int) (k : Nat), k + o.length ≤ 5000 → (∀ x ∈ cs, 0 ≤ x ∧ x ≤ (k : Int) * 1099511627777) → o.foldl (fun cs m => cs.set m.toNat (valP b others cs m)) cs = o.foldl (fun cs m => cs.set m.toNat (valU b others cs m)) cs
 | [], cs, k, _, h => rfl
 | m :: o, cs, k, hk, h => by
  obtain ⟨_, v1, v2⟩ := valP_bnd b others cs m k (by simp at hk; omega) hO h
  have h9 := foldPU b others hO o (cs.set m.toNat (valP b others cs m)) (k + 1) (by simp at hk; omega) (fun x hx => by
   rcases List.mem_or_eq_of_mem_set hx with hx | rfl
   ·have := h x hx
    refine ⟨this.1, Int.le_trans this.2 ?_⟩
    omega
   ·exact ⟨by omega, v2⟩)
  rw [List.foldl_cons, List.foldl_cons, h9, valPU b others cs m k (by simp at hk; omega) hO h]
theorem costP_U {p : PG} {bs : List BD} (h : Bs p bs) (m : Int) (hm : m.toNat < bs.length) (cs : List Int) (hc : ∀ x ∈ cs, 0 ≤ x ∧ x ≤ 1099511627776) : costP (bs.getD m.toNat bd0) (bs.getD m.toNat bd0).ss.length cs = valT bs cs m := by
 obtain ⟨f, b, hb⟩ := h.in' hm
 unfold valT
 rw [hb.gd, hb.slen]
 have hl := ord_len hb.ok hb.bd
 have hn := hb.ok.pos
 have h1 := foldPU b cs hc b.order (List.replicate f.code.length 0) 0 (by omega) (fun x hx => by rw [List.eq_of_mem_replicate hx]; simp)
 have h2 : costP b f.code.length cs = (b.order.foldl (fun cs' m => cs'.set m.toNat (valP b cs cs' m)) (List.replicate f.code.length 0)).getD 0 0 := rfl
 rw [h2, h1]
 rfl
theorem costG_U {p : PG} {bs : List BD} (h : Bs p bs) : ∀ (o cs : List Int), (∀ m ∈ o, m.toNat < bs.length) → (∀ x ∈ cs, 0 ≤ x ∧ x ≤ 1099511627776) →
  (costG bs o cs = some (foldU bs o cs) ∧ (∀ m ∈ o, (bs.getD m.toNat bd0).loops = []) ∧ ∀ pre m post, o = pre ++ m :: post → valT bs (foldU bs pre cs) m ≤ 1099511627776) ∨
  (costG bs o cs = none ∧ ((∃ m ∈ o, (bs.getD m.toNat bd0).loops ≠ []) ∨ ∃ pre m post, o = pre ++ m :: post ∧ 1099511627776 < valT bs (foldU bs pre cs) m))
 | [], cs, _, _ => .inl ⟨rfl, fun m hm => by simp at hm, fun pre m post he => by cases pre <;> simp at he⟩
 | m :: o, cs, hm, hc => by
  have hU := costP_U h m (hm m (by simp)) cs hc
  by_cases hl : (bs.getD m.toNat bd0).loops = []
  ·by_cases hv : 1099511627776 < valT bs cs m
   ·right
    refine ⟨?_, .inr ⟨[], m, o, rfl, hv⟩⟩
    rw [costG, if_neg (by rw [hl]; simp), hU, if_pos hv]
   ·have h0 := valT_pos h (hm m (by simp)) hl cs (fun x hx => (hc x hx).1)
    have hs : costG bs (m :: o) cs = costG bs o (cs.set m.toNat (valT bs cs m)) := by
     rw [costG, if_neg (by rw [hl]; simp), hU, if_neg hv]
    have hr := costG_U h o (cs.set m.toNat (valT bs cs m)) (fun x hx => hm x (by simp [hx])) (fun x hx => by
     rcases List.mem_or_eq_of_mem_set hx with hx | rfl
     ·exact hc x hx
     ·omega)
    rw [hs]
    rcases hr with ⟨r1, r2, r3⟩ | ⟨r1, r2⟩
    ·left
     refine ⟨r1, fun x hx => ?_, fun pre x post he => ?_⟩
     ·rcases List.mem_cons.1 hx with rfl | hx
      ·exact hl
      ·exact r2 x hx
     ·cases pre with
      | nil =>
       simp at he
       obtain ⟨rfl, rfl⟩ := he
       show valT bs cs m ≤ _
       omega
      | cons y pre =>
       simp at he
       obtain ⟨rfl, rfl⟩ := he
       exact r3 pre x post rfl
    ·right
     refine ⟨r1, ?_⟩
     rcases r2 with ⟨x, hx, e⟩ | ⟨pre, x, post, he, e⟩
     ·exact .inl ⟨x, by simp [hx], e⟩
     ·exact .inr ⟨m :: pre, x, post, by rw [he]; rfl, e⟩
  ·right
   refine ⟨?_, .inl ⟨m, by simp, hl⟩⟩
   rw [costG, if_pos]
   exact List.length_pos_iff.2 hl
structure CostQ (p : PG) (bs : List BD) : Prop where
 lp : ∀ q : Nat, (q : Int) ∈ ordF bs → (bs.getD q bd0).loops = []
 nn : ∀ x ∈ tuL bs, 0 ≤ x
 len : ∀ (q : Nat) (f : FN) (b : BD), (q : Int) ∈ ordF bs → BAt p bs q f b → (tuR bs q).length = f.code.length
 z : ∀ q : Nat, (q : Int) ∈ ordF bs → (tuL bs).getD q 0 = (tuR bs q).getD 0 0
 one : ∀ (q : Nat) (f : FN) (b : BD), (q : Int) ∈ ordF bs → BAt p bs q f b → ∀ i : Nat, (i : Int) ∈ b.order → 1 ≤ (tuR bs q).getD i 0
 eq : ∀ (q : Nat) (f : FN) (b : BD), (q : Int) ∈ ordF bs → BAt p bs q f b → ∀ i : Nat, (i : Int) ∈ b.order → (tuR bs q).getD i 0 = 1 + (if (b.ss.getD i st0).op = 17 then (tuL bs).getD (b.ss.getD i st0).a.toNat 0 else 0) + costM (tuR bs q) (nxOf b.ss i) 0
theorem cost_q {p : PG} {bs : List BD} (h : Bs p bs) (hno : true ∉ (tourP (leadP bs) bs.length).again) (hlp : ∀ q : Nat, (q : Int) ∈ ordF bs → (bs.getD q bd0).loops = []) : CostQ p bs := by
 obtain ⟨l1, l2, l3, l4, l5⟩ := lead_tour h
 have hlp' : ∀ m ∈ ordF bs, m.toNat < bs.length ∧ (bs.getD m.toNat bd0).loops = [] := fun m hm => by
  have h1 := l2 m hm
  refine ⟨by omega, hlp m.toNat ?_⟩
  rw [Int.toNat_of_nonneg h1.1]; exact hm
 have hnn := foldU_nn h (ordF bs) (List.replicate bs.length 0) hlp' (fun x hx => by rw [List.eq_of_mem_replicate hx]; simp)
 have hff := fold_fix (valT bs) (fun m => leadP bs m.toNat) (fun cs cs' m hd => by
  unfold valT
  rw [arrU_congr _ _ cs cs' hd]) bs.length (fun _ => True) (ordF bs) [] (List.replicate bs.length 0) (by simp) (by simpa using l4) (fun m hm => l2 m (by simpa using hm)) (fun pre m post he x hx => by
  have hm : m ∈ ordF bs := by rw [List.nil_append] at he; rw [he]; simp
  have h0 := (l2 m hm).1
  obtain ⟨u, hu⟩ : ∃ u : Nat, m = (u : Int) := ⟨m.toNat, by omega⟩
  subst hu
  simp only [Int.toNat_natCast] at hx
  exact l5 hno pre u post (by simpa using he) x hx) (fun m hm => by simp at hm) (fun _ _ _ _ => trivial)
 have hsp : ∀ (q : Nat) (f : FN) (b : BD), (q : Int) ∈ ordF bs → BAt p bs q f b → (arrU b f.code.length (tuL bs)).length = f.code.length ∧ ∀ i : Nat, (i : Int) ∈ b.order → 1 ≤ (arrU b f.code.length (tuL bs)).getD i 0 ∧ (arrU b f.code.length (tuL bs)).getD i 0 = valU b (tuL bs) (arrU b f.code.length (tuL bs)) i := fun q f b hq hb => by
  have hl := hlp q hq
  rw [hb.gd] at hl
  exact arrU_spec hb.ok hb.bd hl (tuL bs) hnn
 have hR : ∀ (q : Nat) (f : FN) (b : BD), BAt p bs q f b → tuR bs q = arrU b f.code.length (tuL bs) := fun q f b hb => by
  unfold tuR
  rw [hb.gd, hb.slen]
 refine ⟨hlp, hnn, fun q f b hq hb => by rw [hR q f b hb]; exact (hsp q f b hq hb).1, fun q hq => ?_, fun q f b hq hb i hi => by rw [hR q f b hb]; exact ((hsp q f b hq hb).2 i hi).1, fun q f b hq hb i hi => ?_⟩
 ·have h1 := (hff.2 (q : Int) (by simpa using hq)).1
  rw [Int.toNat_natCast] at h1
  show (tuL bs).getD q 0 = _
  refine Eq.trans h1 ?_
  unfold valT tuR
  rw [Int.toNat_natCast]
  rfl
 ·rw [hR q f b hb]
  have h1 := ((hsp q f b hq hb).2 i hi).2
  unfold valU at h1
  rw [Int.toNat_natCast] at h1
  exact h1
section
variable {p : PG} {bs : List BD}
theorem CostQ.nxle (hc : CostQ p bs) {q : Nat} {f : FN} {b : BD} (hq : (q : Int) ∈ ordF bs) (hb : BAt p bs q f b) {i : Nat} (hi : (i : Int) ∈ b.order) {m : Int} (hm : m ∈ nxOf b.ss i) : (tuR bs q).getD m.toNat 0 ≤ (tuR bs q).getD i 0 := by
 have h1 := hc.eq q f b hq hb i hi
 have h2 := (costM_ge (tuR bs q) (nxOf b.ss i) 0).2.1 m hm
 have h3 : 0 ≤ (if (b.ss.getD i st0).op = 17 then (tuL bs).getD (b.ss.getD i st0).a.toNat 0 else 0) := by
  split
  ·exact nn_getD hc.nn _
  ·omega
 omega
theorem CostQ.le0 (hc : CostQ p bs) {q : Nat} {f : FN} {b : BD} (hq : (q : Int) ∈ ordF bs) (hb : BAt p bs q f b) {i : Nat} (hi : (i : Int) ∈ b.order) : (tuR bs q).getD i 0 ≤ (tuL bs).getD q 0 := by
 rw [hc.z q hq]
 have hn := hb.ok.pos
 obtain ⟨e1, e2, e3, _⟩ := body_shape hb.bd
 have hR : ∀ n, n < f.code.length → ((n : Int) ∈ b.order ∧ Star (nxOf (stepsL p f)) 0 n) → ∀ m ∈ nxOf (stepsL p f) n, 0 ≤ m ∧ m < f.code.length ∧ ((m.toNat : Int) ∈ b.order ∧ Star (nxOf (stepsL p f)) 0 m.toNat) := fun n _ hs m hm => by
  have hm' : m ∈ nxOf b.ss n := by rw [hb.ss]; exact hm
  obtain ⟨a1, a2, a3⟩ := nx_order hb hs.1 m hm'
  refine ⟨a1, a2, by rw [Int.toNat_of_nonneg a1]; exact a3, hs.2.trans (.step (v := m.toNat) ?_ (.refl _))⟩
  rw [Int.toNat_of_nonneg a1]; exact hm
 obtain ⟨_, a2, _⟩ := tour_all (nxOf (stepsL p f)) f.code.length (fun i => (i : Int) ∈ b.order ∧ Star (nxOf (stepsL p f)) 0 i) (by omega) ⟨zero_ord hb.ok hb.bd, .refl 0⟩ hR
 rw [← e3] at a2
 have hst := (a2 _ hi).2.2.2
 rw [Int.toNat_natCast] at hst
 have key : ∀ u v, Star (nxOf (stepsL p f)) u v → (u : Int) ∈ b.order → (tuR bs q).getD v 0 ≤ (tuR bs q).getD u 0 := fun u v hs => by
  induction hs with
  | refl => exact fun _ => Int.le_refl _
  | step h1 _ ih =>
   intro hu
   rw [← hb.ss] at h1
   have h2 := hc.nxle hq hb hu h1
   have h3 := (nx_order hb hu _ h1).2.2
   rw [Int.toNat_natCast] at h2
   exact Int.le_trans (ih h3) h2
 exact key 0 i hst (zero_ord hb.ok hb.bd)
theorem CostQ.call (hc : CostQ p bs) {q : Nat} {f : FN} {b : BD} (hq : (q : Int) ∈ ordF bs) (hb : BAt p bs q f b) {i : Nat} (hi : (i : Int) ∈ b.order) (h17 : (b.ss.getD i st0).op = 17) : (tuL bs).getD (b.ss.getD i st0).a.toNat 0 < (tuR bs q).getD i 0 := by
 have h1 := hc.eq q f b hq hb i hi
 rw [if_pos h17] at h1
 have h2 := (costM_ge (tuR bs q) (nxOf b.ss i) 0).1
 omega
theorem CostQ.lead (hc : CostQ p bs) (h : Bs p bs) {q : Nat} (hq : (q : Int) ∈ ordF bs) {m : Int} (hm : m ∈ leadP bs q) : (tuL bs).getD m.toNat 0 < (tuL bs).getD q 0 := by
 obtain ⟨_, l2, _⟩ := lead_tour h
 have hql := l2 _ hq
 obtain ⟨f, b, hb⟩ := h.in' (q := q) (by omega)
 unfold leadP at hm
 rw [hb.gd] at hm
 obtain ⟨k, hk, k17, rfl⟩ := named_from b hm
 have k0 := ((order_iff hb.ok hb.bd).1 k hk).1
 obtain ⟨u, rfl⟩ : ∃ u : Nat, k = (u : Int) := ⟨k.toNat, by omega⟩
 rw [Int.toNat_natCast] at k17 ⊢
 have h1 := hc.call hq hb hk k17
 have h2 := hc.le0 hq hb hk
 omega
theorem CostQ.le00 (hc : CostQ p bs) (h : Bs p bs) {q : Nat} (hq : (q : Int) ∈ ordF bs) : (tuL bs).getD q 0 ≤ (tuL bs).getD 0 0 := by
 obtain ⟨l1, _, l3, _⟩ := lead_tour h
 have key : ∀ u v, Star (leadP bs) u v → (u : Int) ∈ ordF bs → (tuL bs).getD v 0 ≤ (tuL bs).getD u 0 := fun u v hs => by
  induction hs with
  | refl => exact fun _ => Int.le_refl _
  | step h1 _ ih =>
   intro hu
   have h2 := hc.lead h hu h1
   rw [Int.toNat_natCast] at h2
   have h3 := ih (l3 _ hu _ h1)
   omega
 rcases (ordF_iff h q).1 hq with rfl | hp
 ·exact Int.le_refl _
 ·exact key 0 q hp.star l1
end
theorem tuL_at {p : PG} {bs : List BD} (h : Bs p bs) {pre post : List Int} {m : Int} (he : ordF bs = pre ++ m :: post) : (tuL bs).getD m.toNat 0 = valT bs (foldU bs pre (List.replicate bs.length 0)) m := by
 obtain ⟨_, l2, _, l4, _⟩ := lead_tour h
 have hm := l2 m (by rw [he]; simp)
 have e : tuL bs = foldU bs post ((foldU bs pre (List.replicate bs.length 0)).set m.toNat (valT bs (foldU bs pre (List.replicate bs.length 0)) m)) := by
  unfold tuL
  rw [he]
  unfold foldU
  rw [List.foldl_append, List.foldl_cons]
 rw [e, foldU_keep, getD_set_eq _ (by rw [foldU_len]; simp; omega)]
 intro x hx e9
 have hx2 := l2 x (by rw [he]; simp [hx])
 have : x = m := by omega
 subst this
 rw [he, List.nodup_append] at l4
 have := l4.2.1
 simp [hx] at this
theorem cost_eq {p : PG} {bs : List BD} (h : Bs p bs) (hno : true ∉ (tourP (leadP bs) bs.length).again) :
  ((∃ q : Nat, (q : Int) ∈ ordF bs ∧ (bs.getD q bd0).loops ≠ []) ∧ (factsP p bs).cost = -1) ∨ (CostQ p bs ∧ (factsP p bs).cost = capM ((tuL bs).getD 0 0)) := by
 obtain ⟨l1, l2, l3, l4, l5⟩ := lead_tour h
 have hco : (factsP p bs).cost = costOfP bs (ordF bs) := by unfold factsP; simp only; rw [if_neg hno]; rfl
 have hG := costG_U h (ordF bs) (List.replicate bs.length 0) (fun m hm => by have := l2 m hm; omega) (fun x hx => by rw [List.eq_of_mem_replicate hx]; omega)
 rw [hco]
 by_cases hall : ∀ q : Nat, (q : Int) ∈ ordF bs → (bs.getD q bd0).loops = []
 ·right
  have hc := cost_q h hno hall
  refine ⟨hc, ?_⟩
  rcases hG with ⟨g1, g2, g3⟩ | ⟨g1, g2⟩
  ·have hA : costOfP bs (ordF bs) = (tuL bs).getD 0 0 := by unfold costOfP; rw [g1]; rfl
   obtain ⟨pre, post, he⟩ := List.append_of_mem l1
   have h1 := g3 pre 0 post he
   have h2 := tuL_at h he
   rw [← h2] at h1
   rw [hA]
   unfold capM
   rw [if_neg]
   show ¬ (1099511627776 < (tuL bs).getD 0 0)
   have h3 : (tuL bs).getD (0 : Int).toNat 0 = (tuL bs).getD 0 0 := rfl
   omega
  ·have hA : costOfP bs (ordF bs) = -1 := by unfold costOfP; rw [g1]
   rw [hA]
   rcases g2 with ⟨m, hm, hl⟩ | ⟨pre, m, post, he, hv⟩
   ·have h1 := l2 m hm
    exact absurd (hall m.toNat (by rw [Int.toNat_of_nonneg h1.1]; exact hm)) hl
   ·rw [← tuL_at h he] at hv
    have hm : m ∈ ordF bs := by rw [he]; simp
    have h1 := l2 m hm
    have h2 := hc.le00 h (q := m.toNat) (by rw [Int.toNat_of_nonneg h1.1]; exact hm)
    unfold capM
    rw [if_pos (by omega)]
 ·left
  have hex : ∃ q : Nat, (q : Int) ∈ ordF bs ∧ (bs.getD q bd0).loops ≠ [] := by
   apply Classical.byContradiction
   intro hne
   exact hall (fun q hq => Classical.byContradiction (fun hl => hne ⟨q, hq, hl⟩))
  refine ⟨hex, ?_⟩
  rcases hG with ⟨g1, g2, g3⟩ | ⟨g1, g2⟩
  ·obtain ⟨q, hq, hl⟩ := hex
   have := g2 _ hq
   rw [Int.toNat_natCast] at this
   exact absurd this hl
  ·unfold costOfP; rw [g1]
end Go.Proofs.YtcaadgcfceommaaGreat

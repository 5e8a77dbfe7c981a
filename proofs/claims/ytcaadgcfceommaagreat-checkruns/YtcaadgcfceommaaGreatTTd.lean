import Derived.Test.YtcaadgcfceommaaGreatTTa
import Derived.Test.YtcaadgcfceommaaGreatTHi
import Derived.Test.YtcaadgcfceommaaGreatTHf
import Derived.Test.YtcaadgcfceommaaGreatTHe0
namespace Go.Proofs.YtcaadgcfceommaaGreat
open Go.RowKit
set_option linter.unusedVariables false
set_option linter.unusedSimpArgs false
set_option maxRecDepth 100000
theorem fold_fix (val : List Int → Int → Int) (dep : Int → List Int) (hval : ∀ (cs cs' : List Int) (m : Int), (∀ x ∈ dep m, cs.getD x.toNat 0 = cs'.getD x.toNat 0) → val cs m = val cs' m) (n : Nat) (P : Int → Prop) :
  ∀ (o p : List Int) (cs : List Int), cs.length = n → (p ++ o).Nodup → (∀ m ∈ p ++ o, 0 ≤ m ∧ m < n) → (∀ pre m post, p ++ o = pre ++ m :: post → ∀ x ∈ dep m, x ∈ pre) → (∀ m ∈ p, cs.getD m.toNat 0 = val cs m ∧ P (cs.getD m.toNat 0)) →
   (∀ pre m post, o = pre ++ m :: post → P (val (pre.foldl (fun cs m => cs.set m.toNat (val cs m)) cs) m)) →
   (o.foldl (fun cs m => cs.set m.toNat (val cs m)) cs).length = n ∧ ∀ m ∈ p ++ o, (o.foldl (fun cs m => cs.set m.toNat (val cs m)) cs).getD m.toNat 0 = val (o.foldl (fun cs m => cs.set m.toNat (val cs m)) cs) m ∧ P ((o.foldl (fun cs m => cs.set m.toNat (val cs m)) cs).getD m.toNat 0)
 | [], p, cs, hl, hnd, hrg, htp, hp, hP => ⟨hl, fun m hm => hp m (by simpa using hm)⟩
 | m :: o, p, cs, hl, hnd, hrg, htp, hp, hP => by
  have hm := hrg m (by simp)
  have hmp : m ∉ p := fun h9 => by
   rw [List.nodup_append] at hnd
   exact hnd.2.2 m h9 m (by simp) rfl
  have hdep : ∀ x ∈ dep m, x ∈ p := htp p m o rfl
  have hml : m.toNat < cs.length := by rw [hl]; omega
  have hsame : ∀ x ∈ p, (cs.set m.toNat (val cs m)).getD x.toNat 0 = cs.getD x.toNat 0 := fun x hx => by
   have hx0 := (hrg x (by simp [hx])).1
   refine getD_set_ne _ (fun e => hmp ?_)
   have : m = x := by omega
   rw [this]; exact hx
  have h1 := fold_fix val dep hval n P o (p ++ [m]) (cs.set m.toNat (val cs m)) (by rw [List.length_set]; exact hl) (by simpa using hnd) (by simpa using hrg) (by simpa using htp) (fun x hx => ?_) (fun pre x post he => hP (m :: pre) x post (by rw [he]; rfl))
  ·show (o.foldl _ (cs.set m.toNat (val cs m))).length = n ∧ _
   refine ⟨h1.1, fun x hx => h1.2 x (by simpa using hx)⟩
  ·rcases List.mem_append.1 hx with hx | hx
   ·obtain ⟨a1, a2⟩ := hp x hx
    refine ⟨?_, by rw [hsame x hx]; exact a2⟩
    rw [hsame x hx, a1]
    obtain ⟨p1, p2, hpp⟩ := List.append_of_mem hx
    exact hval _ _ x (fun y hy => (hsame y (by rw [hpp]; simp [htp p1 x (p2 ++ m :: o) (by rw [hpp]; simp) y hy])).symm)
   ·simp at hx
    subst hx
    rw [getD_set_eq _ hml]
    exact ⟨hval _ _ x (fun y hy => (hsame y (hdep y hy)).symm), hP [] x o rfl⟩
theorem named_has (b : BD) : ∀ (ms l : List Int), (∀ x ∈ l, x ∈ ms.foldl (nameF b) l) ∧ ∀ m ∈ ms, (b.ss.getD m.toNat st0).a ∈ ms.foldl (nameF b) l
 | [], l => ⟨fun x hx => hx, fun m hm => by simp at hm⟩
 | m :: ms, l => by
  obtain ⟨h1, h2⟩ := named_has b ms (nameF b l m)
  have h0 : (∀ x ∈ l, x ∈ nameF b l m) ∧ (b.ss.getD m.toNat st0).a ∈ nameF b l m := by
   unfold nameF
   split
   ·rename_i h; exact ⟨fun x hx => hx, h⟩
   ·exact ⟨fun x hx => by simp [hx], by simp⟩
  refine ⟨fun x hx => h1 x (h0.1 x hx), fun x hx => ?_⟩
  rcases List.mem_cons.1 hx with rfl | hx
  ·exact h1 _ h0.2
  ·exact h2 x hx
structure Bs (p : PG) (bs : List BD) : Prop where
 pl : (plainD p).1 = 0
 len : bs.length = p.fns.length
 bd : ∀ (q : Nat) (f : FN), p.fns[q]? = some f → ∃ b, bs[q]? = some b ∧ bodyD (stepsL p f) f.code.length = .ok b
theorem run_bs {p : PG} {fx : FX} (h : runD p = .ok fx) : ∃ bs, Bs p bs ∧ fx = factsP p bs := by
 unfold runD at h
 by_cases hp : (plainD p).1 = 0
 ·rw [if_neg (by simpa using hp)] at h
  cases hb : bodiesD p p.fns 0 with
  | error z => rw [hb] at h; cases h
  | ok bs =>
   rw [hb] at h
   cases h
   obtain ⟨h1, h2⟩ := bodies_ok p p.fns 0 bs hb
   exact ⟨bs, ⟨hp, h1, h2⟩, rfl⟩
 ·rw [if_pos hp] at h
  cases h
theorem body_shape {ss : List ST} {n : Nat} {b : BD} (h : bodyD ss n = .ok b) : b.ss = ss ∧ b.loops = loopsF (tourP (nxOf ss) n).again n ∧ b.order = (tourP (nxOf ss) n).order ∧ heightsD ss n = .ok b.hs := by
 unfold bodyD at h
 cases hh : heightsD ss n with
 | error z => rw [hh] at h; cases h
 | ok hs => rw [hh] at h; cases h; exact ⟨rfl, rfl, rfl, rfl⟩
theorem closed_big : (5000 : Int) + 1 < closedI := by unfold closedI; decide
theorem body_tour {ss : List ST} {n : Nat} (hok : SsOk ss n) {b : BD} (hb : bodyD ss n = .ok b) : (∀ i : Nat, (i : Int) ∈ b.order → (Plus (nxOf ss) i i → (i : Int) ∈ b.loops)) ∧ (b.loops = [] → ∀ (pre : List Int) (u : Nat) (post : List Int), b.order = pre ++ (u : Int) :: post → ∀ v ∈ nxOf ss u, v ∈ pre) ∧ b.order.Nodup := by
 obtain ⟨e1, e2, e3, hh⟩ := body_shape hb
 have hF := heights_fit ss n hok b.hs hh
 have hn := hok.pos
 have hR : ∀ i, i < n → b.hs.getD i 0 ≠ -1 → ∀ m ∈ nxOf ss i, 0 ≤ m ∧ m < n ∧ b.hs.getD m.toNat 0 ≠ -1 := fun i hi hne m hm => by
  have hlt : i < ss.length := by rw [hok.len]; exact hi
  have hs1 : ss[i]? = some ss[i] := List.getElem?_eq_getElem hlt
  have hm' : m ∈ ss[i].nx := by unfold nxOf at hm; rw [getD_some hs1] at hm; exact hm
  obtain ⟨f1, c1⟩ := hF.ok i _ hi hs1 hne
  obtain ⟨d1, d2, d3⟩ := c1 m hm'
  have hsm := List.mem_of_getElem? hs1
  obtain ⟨f2, _, _⟩ := fault_zero (hok.stb _ hsm) (hok.cp _ hsm) (fun m hm => (hok.nx _ hsm).1 m hm) f1
  exact ⟨d1, d2, by rw [d3]; omega⟩
 obtain ⟨t1, t2, t3, t4⟩ := tour_J (nxOf ss) n (fun i => b.hs.getD i 0 ≠ -1) (by omega) (by have := closed_big; omega) (by show b.hs.getD 0 0 ≠ -1; rw [hF.z]; omega) hR
 have hod := order_iff hok hb
 have hlp : ∀ i : Nat, i < n → (tourP (nxOf ss) n).again.getD i false = true → (i : Int) ∈ b.loops := fun i hi ha => by
  rw [e2]
  unfold loopsF
  refine List.mem_map.2 ⟨i, List.mem_filter.2 ⟨List.mem_range.2 hi, ha⟩, rfl⟩
 refine ⟨fun i hi hp => ?_, fun hl pre u post he v hv => ?_, by rw [e3]; exact t4⟩
 ·have hb2 := hod.1 _ hi
  rw [e3] at hi
  exact hlp i (by omega) ((t1 i hi).2 hp)
 ·have hu : (u : Int) ∈ b.order := by rw [he]; simp
  have hb2 := hod.1 _ hu
  rw [e3] at he hu
  refine t3 pre u post he (fun hp => ?_) v hv
  have := hlp u (by omega) ((t1 u hu).2 hp)
  rw [hl] at this
  simp at this
theorem wrap_id {x : Int} (h1 : -9000000000000000000 ≤ x) (h2 : x ≤ 9000000000000000000) : wrap64 x = x := by
 unfold wrap64
 omega
def valP (b : BD) (others cs : List Int) (m : Int) : Int := wrap64 (1 + costC (b.ss.getD m.toNat st0) others (costM cs (b.ss.getD m.toNat st0).nx 0))
theorem costM_ge (cs : List Int) : ∀ (l : List Int) (c : Int), c ≤ costM cs l c ∧ (∀ x ∈ l, cs.getD x.toNat 0 ≤ costM cs l c) ∧ ∀ M, c ≤ M → (∀ x ∈ l, cs.getD x.toNat 0 ≤ M) → costM cs l c ≤ M
 | [], c => ⟨Int.le_refl _, fun x hx => by simp at hx, fun M h _ => h⟩
 | y :: l, c => by
  obtain ⟨h1, h2, h3⟩ := costM_ge cs l (max2 c (cs.getD y.toNat 0))
  obtain ⟨a1, a2, a3⟩ := max2_ge c (cs.getD y.toNat 0)
  have e : costM cs (y :: l) c = costM cs l (max2 c (cs.getD y.toNat 0)) := rfl
  rw [e]
  refine ⟨by omega, fun x hx => ?_, fun M hM hx => h3 M ?_ (fun x hx' => hx x (by simp [hx']))⟩
  ·rcases List.mem_cons.1 hx with rfl | hx
   ·omega
   ·exact h2 x hx
  ·have := hx y (by simp)
   omega
theorem getD_bnd {l : List Int} {M : Int} (h : ∀ x ∈ l, 0 ≤ x ∧ x ≤ M) (hM : 0 ≤ M) (i : Nat) : 0 ≤ l.getD i 0 ∧ l.getD i 0 ≤ M := by
 by_cases hi : i < l.length
 ·exact h _ (getD_mem hi)
 ·have e : l.getD i 0 = 0 := by simp [List.getD, List.getElem?_eq_none (Nat.le_of_not_lt hi)]
  omega
theorem valP_bnd (b : BD) (others cs : List Int) (m : Int) (k : Nat) (hk : k ≤ 5000) (hO : ∀ x ∈ others, 0 ≤ x ∧ x ≤ 1099511627776) (hcs : ∀ x ∈ cs, 0 ≤ x ∧ x ≤ (k : Int) * 1099511627777) :
  valP b others cs m = 1 + costC (b.ss.getD m.toNat st0) others (costM cs (b.ss.getD m.toNat st0).nx 0) ∧ 1 ≤ valP b others cs m ∧ valP b others cs m ≤ ((k + 1 : Nat) : Int) * 1099511627777 := by
 obtain ⟨s, hs⟩ := nmd (b.ss.getD m.toNat st0)
 unfold valP
 rw [← hs]
 have hk0 : (0 : Int) ≤ (k : Int) * 1099511627777 := by omega
 obtain ⟨m1, m2, m3⟩ := costM_ge cs s.nx 0
 have hM := m3 ((k : Int) * 1099511627777) hk0 (fun x hx => (getD_bnd hcs hk0 x.toNat).2)
 have hc : 0 ≤ costC s others (costM cs s.nx 0) ∧ costC s others (costM cs s.nx 0) ≤ (k : Int) * 1099511627777 + 1099511627776 := by
  unfold costC
  obtain ⟨o1, o2⟩ := getD_bnd hO (by omega) s.a.toNat
  split
  ·rw [wrap_id (by omega) (by omega)]
   omega
  ·omega
 rw [wrap_id (by omega) (by omega)]
 refine ⟨rfl, by omega, ?_⟩
 have e : ((k + 1 : Nat) : Int) * 1099511627777 = (k : Int) * 1099511627777 + 1099511627777 := by
  rw [Int.natCast_add, Int.add_mul]; simp
 rw [e]
 omega
theorem nodup_le : ∀ (n : Nat) (l : List Int), l.Nodup → (∀ x ∈ l, 0 ≤ x ∧ x < n) → l.length ≤ n
 | 0, l, _, h => by
  cases l with
  | nil => simp
  | cons a l => have := h a (by simp); omega
 | n + 1, l, hd, h => by
  by_cases hm : (n : Int) ∈ l
  ·have h1 := nodup_le n (l.erase (n : Int)) (hd.erase _) (fun x hx => by
    obtain ⟨hx1, hx2⟩ := (hd.mem_erase_iff).1 hx
    have := h x hx2
    omega)
   rw [List.length_erase_of_mem hm] at h1
   omega
  ·have h1 := nodup_le n l hd (fun x hx => by
    have := h x hx
    have hne : x ≠ n := fun e => hm (e ▸ hx)
    omega)
   omega
structure BAt (p : PG) (bs : List BD) (q : Nat) (f : FN) (b : BD) : Prop where
 fn : p.fns[q]? = some f
 gd : bs.getD q bd0 = b
 bd : bodyD (stepsL p f) f.code.length = .ok b
 ok : SsOk (stepsL p f) f.code.length
 ss : b.ss = stepsL p f
 fo : FnOk p f
theorem Bs.at' {p : PG} {bs : List BD} (h : Bs p bs) {q : Nat} {f : FN} (hf : p.fns[q]? = some f) : ∃ b, BAt p bs q f b := by
 obtain ⟨b, h1, h2⟩ := h.bd q f hf
 obtain ⟨_, hok⟩ := plain_ok p h.pl
 have hfo := hok f (List.mem_of_getElem? hf)
 exact ⟨b, hf, by simp [List.getD, h1], h2, steps_ok p f hfo hok, (body_shape h2).1, hfo⟩
theorem Bs.in' {p : PG} {bs : List BD} (h : Bs p bs) {q : Nat} (hq : q < bs.length) : ∃ f b, BAt p bs q f b := by
 have hq' : q < p.fns.length := by rw [← h.len]; exact hq
 obtain ⟨b, hb⟩ := h.at' (List.getElem?_eq_getElem hq')
 exact ⟨_, b, hb⟩
theorem BAt.slen {p : PG} {bs : List BD} {q : Nat} {f : FN} {b : BD} (h : BAt p bs q f b) : b.ss.length = f.code.length := by rw [h.ss]; exact h.ok.len
theorem call_named (b : BD) {m : Int} (hm : m ∈ b.order) (h17 : (b.ss.getD m.toNat st0).op = 17) : (b.ss.getD m.toNat st0).a ∈ namedP b := (named_has b (callsP b) []).2 m (List.mem_filter.2 ⟨hm, decide_eq_true h17⟩)
theorem named_from (b : BD) {x : Int} (h : x ∈ namedP b) : ∃ m ∈ b.order, (b.ss.getD m.toNat st0).op = 17 ∧ x = (b.ss.getD m.toNat st0).a := by
 rcases named_mem b (callsP b) [] x h with h | ⟨m, hm, e⟩
 ·simp at h
 ·have h1 := List.mem_filter.1 hm
  exact ⟨m, h1.1, of_decide_eq_true h1.2, e⟩
theorem lead_rng {p : PG} {bs : List BD} (h : Bs p bs) : ∀ q, q < bs.length → ∀ m ∈ leadP bs q, 0 ≤ m ∧ m < bs.length := fun q hq m hm => by
 obtain ⟨f, b, hb⟩ := h.in' hq
 unfold leadP at hm
 rw [hb.gd] at hm
 obtain ⟨k, hk, k17, rfl⟩ := named_from b hm
 obtain ⟨k0, k1, _⟩ := (order_iff hb.ok hb.bd).1 k hk
 rw [hb.ss] at k17 ⊢
 have hlt : k.toNat < (stepsL p f).length := by rw [hb.ok.len]; omega
 have e : (stepsL p f).getD k.toNat st0 = (stepsL p f)[k.toNat] := by simp [List.getD, List.getElem?_eq_getElem hlt]
 rw [e] at k17 ⊢
 rw [h.len]
 exact steps_call p f hb.fo _ (List.getElem_mem hlt) k17
def ordF (bs : List BD) : List Int := (tourP (leadP bs) bs.length).order
theorem lead_tour {p : PG} {bs : List BD} (h : Bs p bs) : (0 : Int) ∈ ordF bs ∧ (∀ m ∈ ordF bs, 0 ≤ m ∧ m < bs.length) ∧ (∀ q : Nat, (q : Int) ∈ ordF bs → ∀ m ∈ leadP bs q, m ∈ ordF bs) ∧ (ordF bs).Nodup ∧
  (true ∉ (tourP (leadP bs) bs.length).again → ∀ (pre : List Int) (u : Nat) (post : List Int), ordF bs = pre ++ (u : Int) :: post → ∀ v ∈ leadP bs u, v ∈ pre) := by
 obtain ⟨hn, _⟩ := plain_ok p h.pl
 have hN : 0 < bs.length ∧ bs.length ≤ 64 := by rw [h.len]; omega
 have hR : ∀ n, n < bs.length → (fun _ : Nat => True) n → ∀ m ∈ leadP bs n, 0 ≤ m ∧ m < bs.length ∧ (fun _ : Nat => True) m.toNat := fun n hn _ m hm => by
  have := lead_rng h n hn m hm
  exact ⟨this.1, this.2, trivial⟩
 obtain ⟨a1, a2, a3⟩ := tour_all (leadP bs) bs.length (fun _ => True) hN.1 trivial hR
 obtain ⟨t1, t2, t3, t4⟩ := tour_J (leadP bs) bs.length (fun _ => True) hN.1 (by have := closed_big; omega) trivial hR
 refine ⟨a1, fun m hm => ⟨(a2 m hm).1, (a2 m hm).2.1⟩, a3, t4, fun hno pre u post he v hv => t3 pre u post he (fun hp => hno ?_) v hv⟩
 have hu : (u : Int) ∈ (tourP (leadP bs) bs.length).order := by
  have h9 : (tourP (leadP bs) bs.length).order = pre ++ (u : Int) :: post := he
  rw [h9]; simp
 have h1 := (t1 u hu).2 hp
 by_cases hl : u < (tourP (leadP bs) bs.length).again.length
 ·have e : (tourP (leadP bs) bs.length).again.getD u false = (tourP (leadP bs) bs.length).again[u] := by simp [List.getD, List.getElem?_eq_getElem hl]
  rw [e] at h1
  rw [← h1]
  exact List.getElem_mem hl
 ·have e : (tourP (leadP bs) bs.length).again.getD u false = false := by simp [List.getD, List.getElem?_eq_none (Nat.le_of_not_lt hl)]
  rw [e] at h1
  cases h1
theorem live_fold : ∀ (o : List Int) (l : List Bool) (m : Nat), m < l.length → (l.getD m false = true ∨ (m : Int) ∈ o) → (∀ x ∈ o, 0 ≤ x) → (o.foldl (fun l m => l.set m.toNat true) l).getD m false = true
 | [], l, m, hm, h, _ => by
  rcases h with h | h
  ·exact h
  ·simp at h
 | x :: o, l, m, hm, h, h0 => by
  refine live_fold o (l.set x.toNat true) m (by simpa using hm) ?_ (fun y hy => h0 y (by simp [hy]))
  by_cases hx : x.toNat = m
  ·left
   subst hx
   simp [List.getD, List.getElem?_set, hm]
  ·rcases h with h | h
   ·left
    simpa [List.getD, List.getElem?_set, hx] using h
   ·rcases List.mem_cons.1 h with h | h
    ·have := h0 x (by simp)
     omega
    ·exact .inr h
theorem fold_same (f g : List Int → Int → List Int) : ∀ (l a : List Int), (∀ m ∈ l, ∀ a, f a m = g a m) → l.foldl f a = l.foldl g a
 | [], a, _ => rfl
 | x :: l, a, h => by
  rw [List.foldl_cons, List.foldl_cons, h x (by simp)]
  exact fold_same f g l _ (fun m hm => h m (by simp [hm]))
theorem ord_len {ss : List ST} {n : Nat} (hok : SsOk ss n) {b : BD} (hb : bodyD ss n = .ok b) : b.order.length ≤ n := nodup_le n b.order (body_tour hok hb).2.2 (fun x hx => by
 obtain ⟨x0, x1, _⟩ := (order_iff hok hb).1 x hx
 exact ⟨x0, x1⟩)
theorem zero_ord {ss : List ST} {n : Nat} (hok : SsOk ss n) {b : BD} (hb : bodyD ss n = .ok b) : (0 : Int) ∈ b.order := by
 have hF := heights_fit ss n hok b.hs (body_shape hb).2.2.2
 have hn := hok.pos
 exact (order_iff hok hb).2 0 (by omega) (by rw [hF.z]; omega)
def valK (p : PG) (bs : List BD) (cs : List Int) (m : Int) : Int := cellsP (bs.getD m.toNat bd0) (locOf p m.toNat) cs
theorem hs_rng {ss : List ST} {n : Nat} (hok : SsOk ss n) {b : BD} (hb : bodyD ss n = .ok b) {m : Int} (hm : m ∈ b.order) : 0 ≤ b.hs.getD m.toNat 0 ∧ b.hs.getD m.toNat 0 ≤ 256 ∧ 0 ≤ (b.ss.getD m.toNat st0).tk ∧ (b.ss.getD m.toNat st0).tk ≤ 1000 ∧ ((b.ss.getD m.toNat st0).op = 17 → (b.ss.getD m.toNat st0).tk ≤ b.hs.getD m.toNat 0) := by
 have hF := heights_fit ss n hok b.hs (body_shape hb).2.2.2
 obtain ⟨m0, m1, m2⟩ := (order_iff hok hb).1 m hm
 have hlt : m.toNat < ss.length := by rw [hok.len]; omega
 have hs1 : ss[m.toNat]? = some ss[m.toNat] := List.getElem?_eq_getElem hlt
 have hlo := hF.lo _ (getD_mem (l := b.hs) (i := m.toNat) (by rw [hF.len]; omega))
 obtain ⟨f1, _⟩ := hF.ok m.toNat _ (by omega) hs1 m2
 have hst := hok.stb _ (List.mem_of_getElem? hs1)
 rw [(body_shape hb).1, getD_some hs1]
 refine ⟨by omega, hlo.2, hst.tk.1, hst.tk.2, fun h17 => ?_⟩
 unfold faultS at f1
 split at f1
 ·cases f1
 ·split at f1
  ·cases f1
  ·rename_i hw
   unfold wantsS at hw
   rw [if_neg (by omega)] at hw
   omega
theorem top_rng {ss : List ST} {n : Nat} (hok : SsOk ss n) {b : BD} (hb : bodyD ss n = .ok b) : 0 ≤ topP b ∧ topP b ≤ 256 := by
 have hT := top_is hok hb
 have hF := heights_fit ss n hok b.hs (body_shape hb).2.2.2
 refine ⟨hT.lo, ?_⟩
 rcases hT.is with e | ⟨i, s, hi, hs, hne, e | e⟩
 ·omega
 ·have hlo := hF.lo _ (getD_mem (l := b.hs) (i := i) (by rw [hF.len]; omega))
  omega
 ·obtain ⟨f1, _⟩ := hF.ok i _ hi hs hne
  have hsm := List.mem_of_getElem? hs
  have := fault_zero (hok.stb _ hsm) (hok.cp _ hsm) (fun m hm => (hok.nx _ hsm).1 m hm) f1
  omega
theorem cellF_fold (b : BD) (others : List Int) (M : Int) (hM : 0 ≤ M ∧ M ≤ 1000000) (hO : ∀ x ∈ others, 0 ≤ x ∧ x ≤ M) : ∀ (l : List Int) (t : Int), 0 ≤ t → t ≤ 256 + M →
  (∀ m ∈ l, 0 ≤ b.hs.getD m.toNat 0 ∧ b.hs.getD m.toNat 0 ≤ 256 ∧ 0 ≤ (b.ss.getD m.toNat st0).tk ∧ (b.ss.getD m.toNat st0).tk ≤ b.hs.getD m.toNat 0) →
  t ≤ l.foldl (cellF b others) t ∧ l.foldl (cellF b others) t ≤ 256 + M ∧ ∀ m ∈ l, b.hs.getD m.toNat 0 - (b.ss.getD m.toNat st0).tk + others.getD (b.ss.getD m.toNat st0).a.toNat 0 ≤ l.foldl (cellF b others) t
 | [], t, h0, h1, _ => ⟨Int.le_refl _, h1, fun m hm => by simp at hm⟩
 | m :: l, t, h0, h1, h => by
  obtain ⟨a1, a2, a3, a4⟩ := h m (by simp)
  obtain ⟨o1, o2⟩ := getD_bnd hO hM.1 (b.ss.getD m.toNat st0).a.toNat
  obtain ⟨t', ht'⟩ := nmd (cellF b others t m)
  have e : t' = max2 t (b.hs.getD m.toNat 0 - (b.ss.getD m.toNat st0).tk + others.getD (b.ss.getD m.toNat st0).a.toNat 0) := by
   rw [ht']
   unfold cellF
   rw [wrap_id (x := b.hs.getD m.toNat 0 - (b.ss.getD m.toNat st0).tk) (by omega) (by omega), wrap_id (by omega) (by omega)]
  obtain ⟨x1, x2, x3⟩ := max2_ge t (b.hs.getD m.toNat 0 - (b.ss.getD m.toNat st0).tk + others.getD (b.ss.getD m.toNat st0).a.toNat 0)
  rw [← e] at x1 x2 x3
  obtain ⟨r1, r2, r3⟩ := cellF_fold b others M hM hO l t' (by omega) (by omega) (fun k hk => h k (by simp [hk]))
  rw [List.foldl_cons, ← ht']
  refine ⟨by omega, r2, fun k hk => ?_⟩
  rcases List.mem_cons.1 hk with rfl | hk
  ·omega
  ·exact r3 k hk
theorem loc_rng {p : PG} {bs : List BD} {q : Nat} {f : FN} {b : BD} (h : BAt p bs q f b) : locOf p q = f.l ∧ 0 ≤ f.l ∧ f.l ≤ 64 := by
 refine ⟨?_, h.fo.l⟩
 unfold locOf
 rw [h.fn]
 rfl
theorem cells_val {p : PG} {bs : List BD} {q : Nat} {f : FN} {b : BD} (h : BAt p bs q f b) (others : List Int) (M : Int) (hM : 0 ≤ M ∧ M ≤ 1000000) (hO : ∀ x ∈ others, 0 ≤ x ∧ x ≤ M) :
  (0 ≤ cellsP b (locOf p q) others ∧ cellsP b (locOf p q) others ≤ M + 1000) ∧ (∀ m ∈ b.order, 1 + f.l + b.hs.getD m.toNat 0 ≤ cellsP b (locOf p q) others) ∧
  ∀ m ∈ b.order, (b.ss.getD m.toNat st0).op = 17 → 1 + f.l + (b.hs.getD m.toNat 0 - (b.ss.getD m.toNat st0).tk) + others.getD (b.ss.getD m.toNat st0).a.toNat 0 ≤ cellsP b (locOf p q) others := by
 obtain ⟨l1, l2, l3⟩ := loc_rng h
 obtain ⟨t1, t2⟩ := top_rng h.ok h.bd
 obtain ⟨c1, c2, c3⟩ := cellF_fold b others M hM hO (callsP b) (topP b) t1 (by omega) (fun m hm => by
  have h1 := List.mem_filter.1 hm
  obtain ⟨a1, a2, a3, a4, a5⟩ := hs_rng h.ok h.bd h1.1
  exact ⟨a1, a2, a3, a5 (of_decide_eq_true h1.2)⟩)
 have e : cellsP b (locOf p q) others = 1 + f.l + (callsP b).foldl (cellF b others) (topP b) := by
  unfold cellsP
  rw [l1, wrap_id (x := 1 + f.l) (by omega) (by omega), wrap_id (by omega) (by omega)]
 rw [e]
 refine ⟨⟨by omega, by omega⟩, fun m hm => ?_, fun m hm h17 => ?_⟩
 ·have h1 := (topF_fold b b.order 0).2.1 m hm
  have h2 : topP b = b.order.foldl (topF b) 0 := rfl
  rw [← h2] at h1
  omega
 ·have := c3 m (List.mem_filter.2 ⟨hm, decide_eq_true h17⟩)
  omega
theorem foldI_same (f g : Int → Int → Int) : ∀ (l : List Int) (a : Int), (∀ m ∈ l, ∀ a, f a m = g a m) → l.foldl f a = l.foldl g a
 | [], a, _ => rfl
 | x :: l, a, h => by
  rw [List.foldl_cons, List.foldl_cons, h x (by simp)]
  exact foldI_same f g l _ (fun m hm => h m (by simp [hm]))
theorem cells_congr (b : BD) (loc : Int) (o o' : List Int) (h : ∀ x ∈ namedP b, o.getD x.toNat 0 = o'.getD x.toNat 0) : cellsP b loc o = cellsP b loc o' := by
 unfold cellsP
 rw [foldI_same (cellF b o) (cellF b o') _ _ (fun m hm a => by
  have h1 := List.mem_filter.1 hm
  unfold cellF
  rw [h _ (call_named b h1.1 (of_decide_eq_true h1.2))])]
theorem mul_mono2 (a b : Nat) (h : a ≤ b) : (a : Int) * 1000 ≤ (b : Int) * 1000 := by omega
theorem foldK_bnd {p : PG} {bs : List BD} (h : Bs p bs) : ∀ (o cs : List Int) (k : Nat), k + o.length ≤ 64 → (∀ m ∈ o, 0 ≤ m ∧ m < bs.length) → (∀ x ∈ cs, 0 ≤ x ∧ x ≤ (k : Int) * 1000) → ∀ x ∈ o.foldl (fun cs m => cs.set m.toNat (valK p bs cs m)) cs, 0 ≤ x ∧ x ≤ ((k + o.length : Nat) : Int) * 1000
 | [], cs, k, hk, ho, hc => by simpa using hc
 | m :: o, cs, k, hk, ho, hc => by
  have hm := ho m (by simp)
  obtain ⟨f, b, hb⟩ := h.in' (q := m.toNat) (by omega)
  have hk' : k + (o.length + 1) ≤ 64 := by simpa using hk
  obtain ⟨⟨v1, v2⟩, _⟩ := cells_val hb cs ((k : Int) * 1000) (by omega) hc
  have hv : valK p bs cs m = cellsP b (locOf p m.toNat) cs := by unfold valK; rw [hb.gd]
  rw [← hv] at v1 v2
  have h9 := foldK_bnd h o (cs.set m.toNat (valK p bs cs m)) (k + 1) (by omega) (fun x hx => ho x (by simp [hx])) (fun x hx => by
   rcases List.mem_or_eq_of_mem_set hx with hx | rfl
   ·have := hc x hx
    omega
   ·omega)
  have e : k + (m :: o).length = k + 1 + o.length := by simp; omega
  rw [e]
  exact h9
end Go.Proofs.YtcaadgcfceommaaGreat

/-
  TTd: Td, Te, Tf, Tg, Th.
-/
import Derived.Test.YtcaadgcfceommaaGreatTTa
import Derived.Test.YtcaadgcfceommaaGreatTHj
import Derived.Test.YtcaadgcfceommaaGreatTHe0
namespace Go.Proofs.YtcaadgcfceommaaGreat
open Go.RowKit
set_option linter.unusedVariables false
set_option linter.unusedSimpArgs false
set_option maxRecDepth 100000

/-- A row that is filled place by place, each out of those ahead of it. -/
theorem fold_fix (val : List Int → Int → Int) (dep : Int → List Int) (hval : ∀ (cs cs' : List Int) (m : Int), (∀ x ∈ dep m, cs.getD x.toNat 0 = cs'.getD x.toNat 0) → val cs m = val cs' m) (n : Nat) (P : Int → Prop) :
    ∀ (o p : List Int) (cs : List Int), cs.length = n → (p ++ o).Nodup → (∀ m ∈ p ++ o, 0 ≤ m ∧ m < n) → (∀ pre m post, p ++ o = pre ++ m :: post → ∀ x ∈ dep m, x ∈ pre) → (∀ m ∈ p, cs.getD m.toNat 0 = val cs m ∧ P (cs.getD m.toNat 0)) →
      (∀ pre m post, o = pre ++ m :: post → P (val (pre.foldl (fun cs m => cs.set m.toNat (val cs m)) cs) m)) →
      (o.foldl (fun cs m => cs.set m.toNat (val cs m)) cs).length = n ∧ ∀ m ∈ p ++ o, (o.foldl (fun cs m => cs.set m.toNat (val cs m)) cs).getD m.toNat 0 = val (o.foldl (fun cs m => cs.set m.toNat (val cs m)) cs) m ∧ P ((o.foldl (fun cs m => cs.set m.toNat (val cs m)) cs).getD m.toNat 0)
  | [], p, cs, hl, hnd, hrg, htp, hp, hP => ⟨hl, fun m hm => hp m (by simpa using hm)⟩
  | m :: o, p, cs, hl, hnd, hrg, htp, hp, hP => by
    have hm := hrg m (by simp)
    have hmp : m ∉ p := fun h9 => by
      rw [List.nodup_append] at hnd
      exact hnd.2.2 m h9 m (by simp) rfl
    have hdep : ∀ x ∈ dep m, x ∈ p := htp p m o rfl
    have hml : m.toNat < cs.length := by rw [hl]; omega
    have hsame : ∀ x ∈ p, (cs.set m.toNat (val cs m)).getD x.toNat 0 = cs.getD x.toNat 0 := fun x hx => by
      have hx0 := (hrg x (by simp [hx])).1
      refine getD_set_ne _ (fun e => hmp ?_)
      have : m = x := by omega
      rw [this]; exact hx
    have h1 := fold_fix val dep hval n P o (p ++ [m]) (cs.set m.toNat (val cs m)) (by rw [List.length_set]; exact hl) (by simpa using hnd) (by simpa using hrg) (by simpa using htp) (fun x hx => ?_) (fun pre x post he => hP (m :: pre) x post (by rw [he]; rfl))
    · show (o.foldl _ (cs.set m.toNat (val cs m))).length = n ∧ _
      refine ⟨h1.1, fun x hx => h1.2 x (by simpa using hx)⟩
    · rcases List.mem_append.1 hx with hx | hx
      · obtain ⟨a1, a2⟩ := hp x hx
        refine ⟨?_, by rw [hsame x hx]; exact a2⟩
        rw [hsame x hx, a1]
        obtain ⟨p1, p2, hpp⟩ := List.append_of_mem hx
        exact hval _ _ x (fun y hy => (hsame y (by rw [hpp]; simp [htp p1 x (p2 ++ m :: o) (by rw [hpp]; simp) y hy])).symm)
      · simp at hx
        subst hx
        rw [getD_set_eq _ hml]
        exact ⟨hval _ _ x (fun y hy => (hsame y (hdep y hy)).symm), hP [] x o rfl⟩
theorem named_has (b : BD) : ∀ (ms l : List Int), (∀ x ∈ l, x ∈ ms.foldl (nameF b) l) ∧ ∀ m ∈ ms, (b.ss.getD m.toNat st0).a ∈ ms.foldl (nameF b) l
  | [], l => ⟨fun x hx => hx, fun m hm => by simp at hm⟩
  | m :: ms, l => by
    obtain ⟨h1, h2⟩ := named_has b ms (nameF b l m)
    have h0 : (∀ x ∈ l, x ∈ nameF b l m) ∧ (b.ss.getD m.toNat st0).a ∈ nameF b l m := by
      unfold nameF
      split
      · rename_i h; exact ⟨fun x hx => hx, h⟩
      · exact ⟨fun x hx => by simp [hx], by simp⟩
    refine ⟨fun x hx => h1 x (h0.1 x hx), fun x hx => ?_⟩
    rcases List.mem_cons.1 hx with rfl | hx
    · exact h1 _ h0.2
    · exact h2 x hx
/-- The bodies of a program. -/
structure Bs (p : PG) (bs : List BD) : Prop where
  pl : (plainD p).1 = 0
  len : bs.length = p.fns.length
  bd : ∀ (q : Nat) (f : FN), p.fns[q]? = some f → ∃ b, bs[q]? = some b ∧ bodyD (stepsL p f) f.code.length = .ok b
theorem run_bs {p : PG} {fx : FX} (h : runD p = .ok fx) : ∃ bs, Bs p bs ∧ fx = factsP p bs := by
  unfold runD at h
  by_cases hp : (plainD p).1 = 0
  · rw [if_neg (by simpa using hp)] at h
    cases hb : bodiesD p p.fns 0 with
    | error z => rw [hb] at h; cases h
    | ok bs =>
      rw [hb] at h
      cases h
      obtain ⟨h1, h2⟩ := bodies_ok p p.fns 0 bs hb
      exact ⟨bs, ⟨hp, h1, h2⟩, rfl⟩
  · rw [if_pos hp] at h
    cases h
theorem body_shape {ss : List ST} {n : Nat} {b : BD} (h : bodyD ss n = .ok b) : b.ss = ss ∧ b.loops = loopsF (tourP (nxOf ss) n).again n ∧ b.order = (tourP (nxOf ss) n).order ∧ heightsD ss n = .ok b.hs := by
  unfold bodyD at h
  cases hh : heightsD ss n with
  | error z => rw [hh] at h; cases h
  | ok hs => rw [hh] at h; cases h; exact ⟨rfl, rfl, rfl, rfl⟩
theorem closed_big : (5000 : Int) + 1 < closedI := by unfold closedI; decide
/-- The tour over the places of a body. -/
theorem body_tour {ss : List ST} {n : Nat} (hok : SsOk ss n) {b : BD} (hb : bodyD ss n = .ok b) : (∀ i : Nat, (i : Int) ∈ b.order → (Plus (nxOf ss) i i → (i : Int) ∈ b.loops)) ∧ (b.loops = [] → ∀ (pre : List Int) (u : Nat) (post : List Int), b.order = pre ++ (u : Int) :: post → ∀ v ∈ nxOf ss u, v ∈ pre) ∧ b.order.Nodup := by
  obtain ⟨e1, e2, e3, hh⟩ := body_shape hb
  have hF := heights_fit ss n hok b.hs hh
  have hn := hok.pos
  have hR : ∀ i, i < n → b.hs.getD i 0 ≠ -1 → ∀ m ∈ nxOf ss i, 0 ≤ m ∧ m < n ∧ b.hs.getD m.toNat 0 ≠ -1 := fun i hi hne m hm => by
    have hlt : i < ss.length := by rw [hok.len]; exact hi
    have hs1 : ss[i]? = some ss[i] := List.getElem?_eq_getElem hlt
    have hm' : m ∈ ss[i].nx := by unfold nxOf at hm; rw [getD_some hs1] at hm; exact hm
    obtain ⟨f1, c1⟩ := hF.ok i _ hi hs1 hne
    obtain ⟨d1, d2, d3⟩ := c1 m hm'
    have hsm := List.mem_of_getElem? hs1
    obtain ⟨f2, _, _⟩ := fault_zero (hok.stb _ hsm) (hok.cp _ hsm) (fun m hm => (hok.nx _ hsm).1 m hm) f1
    exact ⟨d1, d2, by rw [d3]; omega⟩
  obtain ⟨t1, t2, t3, t4⟩ := tour_J (nxOf ss) n (fun i => b.hs.getD i 0 ≠ -1) (by omega) (by have := closed_big; omega) (by show b.hs.getD 0 0 ≠ -1; rw [hF.z]; omega) hR
  have hod := order_iff hok hb
  have hlp : ∀ i : Nat, i < n → (tourP (nxOf ss) n).again.getD i false = true → (i : Int) ∈ b.loops := fun i hi ha => by
    rw [e2]
    unfold loopsF
    refine List.mem_map.2 ⟨i, List.mem_filter.2 ⟨List.mem_range.2 hi, ha⟩, rfl⟩
  refine ⟨fun i hi hp => ?_, fun hl pre u post he v hv => ?_, by rw [e3]; exact t4⟩
  · have hb2 := hod.1 _ hi
    rw [e3] at hi
    exact hlp i (by omega) ((t1 i hi).2 hp)
  · have hu : (u : Int) ∈ b.order := by rw [he]; simp
    have hb2 := hod.1 _ hu
    rw [e3] at he hu
    refine t3 pre u post he (fun hp => ?_) v hv
    have := hlp u (by omega) ((t1 u hu).2 hp)
    rw [hl] at this
    simp at this
theorem wrap_id {x : Int} (h1 : -9000000000000000000 ≤ x) (h2 : x ≤ 9000000000000000000) : wrap64 x = x := by
  unfold wrap64
  omega
end Go.Proofs.YtcaadgcfceommaaGreat

namespace Go.Proofs.YtcaadgcfceommaaGreat
open Go.RowKit
set_option linter.unusedVariables false
set_option linter.unusedSimpArgs false
set_option maxRecDepth 100000

def valC (bs : List BD) (cs : List Int) (m : Int) : Int := costP (bs.getD m.toNat bd0) (bs.getD m.toNat bd0).ss.length cs
def foldC (bs : List BD) (o cs : List Int) : List Int := o.foldl (fun cs m => cs.set m.toNat (valC bs cs m)) cs
theorem costG_ok (bs : List BD) (hnn : ∀ (m : Int) (cs : List Int), (∀ x ∈ cs, 0 ≤ x ∧ x ≤ 1099511627776) → (bs.getD m.toNat bd0).loops = [] → 0 ≤ valC bs cs m) : ∀ (o cs A : List Int), (∀ x ∈ cs, 0 ≤ x ∧ x ≤ 1099511627776) → costG bs o cs = some A →
    A = foldC bs o cs ∧ (∀ x ∈ A, 0 ≤ x ∧ x ≤ 1099511627776) ∧ ∀ pre m post, o = pre ++ m :: post → (bs.getD m.toNat bd0).loops = [] ∧ 0 ≤ valC bs (foldC bs pre cs) m ∧ valC bs (foldC bs pre cs) m ≤ 1099511627776
  | [], cs, A, hc, h => by
    simp only [costG, Option.some.injEq] at h
    subst h
    exact ⟨rfl, hc, fun pre m post he => by cases pre <;> simp at he⟩
  | m :: o, cs, A, hc, h => by
    rw [costG] at h
    split at h
    · cases h
    · rename_i hl
      have hl0 : (bs.getD m.toNat bd0).loops = [] := List.length_eq_zero_iff.1 (by omega)
      split at h
      · cases h
      · rename_i hb
        have h0 := hnn m cs hc hl0
        have hb' : valC bs cs m ≤ 1099511627776 := by unfold valC; omega
        have hc2 : ∀ x ∈ cs.set m.toNat (valC bs cs m), 0 ≤ x ∧ x ≤ 1099511627776 := fun x hx => by
          rcases List.mem_or_eq_of_mem_set hx with hx | rfl
          · exact hc x hx
          · exact ⟨h0, hb'⟩
        obtain ⟨a1, a2, a3⟩ := costG_ok bs hnn o _ A hc2 h
        refine ⟨a1, a2, fun pre x post he => ?_⟩
        cases pre with
        | nil =>
          simp at he
          obtain ⟨rfl, rfl⟩ := he
          exact ⟨hl0, h0, hb'⟩
        | cons y pre =>
          simp at he
          obtain ⟨rfl, rfl⟩ := he
          exact a3 pre x post rfl
def valP (b : BD) (others cs : List Int) (m : Int) : Int := wrap64 (1 + costC (b.ss.getD m.toNat st0) others (costM cs (b.ss.getD m.toNat st0).nx 0))
theorem costM_ge (cs : List Int) : ∀ (l : List Int) (c : Int), c ≤ costM cs l c ∧ (∀ x ∈ l, cs.getD x.toNat 0 ≤ costM cs l c) ∧ ∀ M, c ≤ M → (∀ x ∈ l, cs.getD x.toNat 0 ≤ M) → costM cs l c ≤ M
  | [], c => ⟨Int.le_refl _, fun x hx => by simp at hx, fun M h _ => h⟩
  | y :: l, c => by
    obtain ⟨h1, h2, h3⟩ := costM_ge cs l (max2 c (cs.getD y.toNat 0))
    obtain ⟨a1, a2, a3⟩ := max2_ge c (cs.getD y.toNat 0)
    have e : costM cs (y :: l) c = costM cs l (max2 c (cs.getD y.toNat 0)) := rfl
    rw [e]
    refine ⟨by omega, fun x hx => ?_, fun M hM hx => h3 M ?_ (fun x hx' => hx x (by simp [hx']))⟩
    · rcases List.mem_cons.1 hx with rfl | hx
      · omega
      · exact h2 x hx
    · have := hx y (by simp)
      omega
theorem getD_bnd {l : List Int} {M : Int} (h : ∀ x ∈ l, 0 ≤ x ∧ x ≤ M) (hM : 0 ≤ M) (i : Nat) : 0 ≤ l.getD i 0 ∧ l.getD i 0 ≤ M := by
  by_cases hi : i < l.length
  · exact h _ (getD_mem hi)
  · have e : l.getD i 0 = 0 := by simp [List.getD, List.getElem?_eq_none (Nat.le_of_not_lt hi)]
    omega
theorem valP_bnd (b : BD) (others cs : List Int) (m : Int) (k : Nat) (hk : k ≤ 5000) (hO : ∀ x ∈ others, 0 ≤ x ∧ x ≤ 1099511627776) (hcs : ∀ x ∈ cs, 0 ≤ x ∧ x ≤ (k : Int) * 1099511627777) :
    valP b others cs m = 1 + costC (b.ss.getD m.toNat st0) others (costM cs (b.ss.getD m.toNat st0).nx 0) ∧ 1 ≤ valP b others cs m ∧ valP b others cs m ≤ ((k + 1 : Nat) : Int) * 1099511627777 := by
  obtain ⟨s, hs⟩ : ∃ s, s = b.ss.getD m.toNat st0 := ⟨_, rfl⟩
  unfold valP
  rw [← hs]
  have hk0 : (0 : Int) ≤ (k : Int) * 1099511627777 := by omega
  obtain ⟨m1, m2, m3⟩ := costM_ge cs s.nx 0
  have hM := m3 ((k : Int) * 1099511627777) hk0 (fun x hx => (getD_bnd hcs hk0 x.toNat).2)
  have hc : 0 ≤ costC s others (costM cs s.nx 0) ∧ costC s others (costM cs s.nx 0) ≤ (k : Int) * 1099511627777 + 1099511627776 := by
    unfold costC
    obtain ⟨o1, o2⟩ := getD_bnd hO (by omega) s.a.toNat
    split
    · rw [wrap_id (by omega) (by omega)]
      omega
    · omega
  rw [wrap_id (by omega) (by omega)]
  refine ⟨rfl, by omega, ?_⟩
  have e : ((k + 1 : Nat) : Int) * 1099511627777 = (k : Int) * 1099511627777 + 1099511627777 := by
    rw [Int.natCast_add, Int.add_mul]; simp
  rw [e]
  omega
theorem foldP_bnd (b : BD) (others : List Int) (hO : ∀ x ∈ others, 0 ≤ x ∧ x ≤ 1099511627776) : ∀ (o cs : List Int) (k : Nat), k + o.length ≤ 5000 → (∀ x ∈ cs, 0 ≤ x ∧ x ≤ (k : Int) * 1099511627777) → ∀ x ∈ o.foldl (fun cs m => cs.set m.toNat (valP b others cs m)) cs, 0 ≤ x ∧ x ≤ ((k + o.length : Nat) : Int) * 1099511627777
  | [], cs, k, _, h => h
  | m :: o, cs, k, hk, h => by
    obtain ⟨_, v1, v2⟩ := valP_bnd b others cs m k (by simp at hk; omega) hO h
    have h9 := foldP_bnd b others hO o (cs.set m.toNat (valP b others cs m)) (k + 1) (by simp at hk; omega) (fun x hx => by
      rcases List.mem_or_eq_of_mem_set hx with hx | rfl
      · have := h x hx
        refine ⟨this.1, Int.le_trans this.2 ?_⟩
        omega
      · exact ⟨by omega, v2⟩)
    have e : k + (m :: o).length = k + 1 + o.length := by simp; omega
    rw [e]
    exact h9
def arrP (b : BD) (n : Nat) (others : List Int) : List Int := b.order.foldl (costF b others) (List.replicate n 0)
theorem nodup_le : ∀ (n : Nat) (l : List Int), l.Nodup → (∀ x ∈ l, 0 ≤ x ∧ x < n) → l.length ≤ n
  | 0, l, _, h => by
    cases l with
    | nil => simp
    | cons a l => have := h a (by simp); omega
  | n + 1, l, hd, h => by
    by_cases hm : (n : Int) ∈ l
    · have h1 := nodup_le n (l.erase (n : Int)) (hd.erase _) (fun x hx => by
        obtain ⟨hx1, hx2⟩ := (hd.mem_erase_iff).1 hx
        have := h x hx2
        omega)
      rw [List.length_erase_of_mem hm] at h1
      omega
    · have h1 := nodup_le n l hd (fun x hx => by
        have := h x hx
        have hne : x ≠ n := fun e => hm (e ▸ hx)
        omega)
      omega
theorem mul_mono (a b : Nat) (h : a ≤ b) : (a : Int) * 1099511627777 ≤ (b : Int) * 1099511627777 := by omega
/-- What a place's cost is. -/
theorem arr_spec {ss : List ST} {n : Nat} (hok : SsOk ss n) {b : BD} (hb : bodyD ss n = .ok b) (hl : b.loops = []) (others : List Int) (hO : ∀ x ∈ others, 0 ≤ x ∧ x ≤ 1099511627776) : ∀ i : Nat, (i : Int) ∈ b.order → 1 ≤ (arrP b n others).getD i 0 ∧ (arrP b n others).getD i 0 = 1 + costC (ss.getD i st0) others (costM (arrP b n others) (ss.getD i st0).nx 0) := by
  obtain ⟨e1, e2, e3, hh⟩ := body_shape hb
  obtain ⟨_, t2, t3⟩ := body_tour hok hb
  have hod := order_iff hok hb
  have hn := hok.pos
  have hlen : b.order.length ≤ n := by
    exact nodup_le n b.order t3 (fun x hx => by
      obtain ⟨x0, x1, _⟩ := hod.1 x hx
      exact ⟨x0, x1⟩)
  have hz : ∀ x ∈ List.replicate n (0 : Int), 0 ≤ x ∧ x ≤ ((0 : Nat) : Int) * 1099511627777 := fun x hx => by rw [List.eq_of_mem_replicate hx]; simp
  have hff := fold_fix (valP b others) (fun m => nxOf ss m.toNat) (fun cs cs' m hd => by
    unfold valP
    have : ∀ (l : List Int) (c : Int), (∀ x ∈ l, cs.getD x.toNat 0 = cs'.getD x.toNat 0) → costM cs l c = costM cs' l c := by
      intro l
      induction l with
      | nil => intro c _; rfl
      | cons y l ih =>
        intro c h
        show costM cs l (max2 c (cs.getD y.toNat 0)) = costM cs' l (max2 c (cs'.getD y.toNat 0))
        rw [h y (by simp)]
        exact ih _ (fun x hx => h x (by simp [hx]))
    rw [this _ _ (fun x hx => hd x (by unfold nxOf; rw [← e1]; exact hx))]) n (fun x => 1 ≤ x) b.order [] (List.replicate n 0) (by simp) (by simpa using t3) (fun m hm => by
    have := hod.1 m (by simpa using hm)
    exact ⟨this.1, this.2.1⟩) (fun pre m post he x hx => by
    have hm : m ∈ b.order := by rw [List.nil_append] at he; rw [he]; simp
    have h0 := (hod.1 m hm).1
    obtain ⟨u, hu⟩ : ∃ u : Nat, m = (u : Int) := ⟨m.toNat, by omega⟩
    subst hu
    simp only [Int.toNat_natCast] at hx
    exact t2 hl pre u post (by simpa using he) x hx) (fun m hm => by simp at hm) (fun pre m post he => by
    have hpl : pre.length ≤ b.order.length := by rw [he]; simp
    have hb9 := foldP_bnd b others hO pre (List.replicate n 0) 0 (by omega) hz
    exact (valP_bnd b others _ m (0 + pre.length) (by omega) hO hb9).2.1)
  have harr : arrP b n others = b.order.foldl (fun cs m => cs.set m.toNat (valP b others cs m)) (List.replicate n 0) := rfl
  rw [← harr] at hff
  intro i hi
  obtain ⟨h1, h2⟩ := hff.2 (i : Int) (by simpa using hi)
  simp only [Int.toNat_natCast] at h1 h2
  refine ⟨h2, ?_⟩
  have hb9 := foldP_bnd b others hO b.order (List.replicate n 0) 0 (by omega) hz
  rw [← harr] at hb9
  have h3 := (valP_bnd b others (arrP b n others) (i : Int) (0 + b.order.length) (by omega) hO hb9).1
  rw [h1, h3, Int.toNat_natCast, e1]
end Go.Proofs.YtcaadgcfceommaaGreat

namespace Go.Proofs.YtcaadgcfceommaaGreat
open Go.RowKit
set_option linter.unusedVariables false
set_option linter.unusedSimpArgs false
set_option maxRecDepth 100000

/-- A function's body. -/
structure BAt (p : PG) (bs : List BD) (q : Nat) (f : FN) (b : BD) : Prop where
  fn : p.fns[q]? = some f
  gd : bs.getD q bd0 = b
  bd : bodyD (stepsL p f) f.code.length = .ok b
  ok : SsOk (stepsL p f) f.code.length
  ss : b.ss = stepsL p f
  fo : FnOk p f
theorem Bs.at' {p : PG} {bs : List BD} (h : Bs p bs) {q : Nat} {f : FN} (hf : p.fns[q]? = some f) : ∃ b, BAt p bs q f b := by
  obtain ⟨b, h1, h2⟩ := h.bd q f hf
  obtain ⟨_, hok⟩ := plain_ok p h.pl
  have hfo := hok f (List.mem_of_getElem? hf)
  exact ⟨b, hf, by simp [List.getD, h1], h2, steps_ok p f hfo hok, (body_shape h2).1, hfo⟩
theorem Bs.in' {p : PG} {bs : List BD} (h : Bs p bs) {q : Nat} (hq : q < bs.length) : ∃ f b, BAt p bs q f b := by
  have hq' : q < p.fns.length := by rw [← h.len]; exact hq
  obtain ⟨b, hb⟩ := h.at' (List.getElem?_eq_getElem hq')
  exact ⟨_, b, hb⟩
theorem BAt.slen {p : PG} {bs : List BD} {q : Nat} {f : FN} {b : BD} (h : BAt p bs q f b) : b.ss.length = f.code.length := by rw [h.ss]; exact h.ok.len
theorem call_named (b : BD) {m : Int} (hm : m ∈ b.order) (h17 : (b.ss.getD m.toNat st0).op = 17) : (b.ss.getD m.toNat st0).a ∈ namedP b := (named_has b (callsP b) []).2 m (List.mem_filter.2 ⟨hm, decide_eq_true h17⟩)
theorem named_from (b : BD) {x : Int} (h : x ∈ namedP b) : ∃ m ∈ b.order, (b.ss.getD m.toNat st0).op = 17 ∧ x = (b.ss.getD m.toNat st0).a := by
  rcases named_mem b (callsP b) [] x h with h | ⟨m, hm, e⟩
  · simp at h
  · have h1 := List.mem_filter.1 hm
    exact ⟨m, h1.1, of_decide_eq_true h1.2, e⟩
theorem lead_rng {p : PG} {bs : List BD} (h : Bs p bs) : ∀ q, q < bs.length → ∀ m ∈ leadP bs q, 0 ≤ m ∧ m < bs.length := fun q hq m hm => by
  obtain ⟨f, b, hb⟩ := h.in' hq
  unfold leadP at hm
  rw [hb.gd] at hm
  obtain ⟨k, hk, k17, rfl⟩ := named_from b hm
  obtain ⟨k0, k1, _⟩ := (order_iff hb.ok hb.bd).1 k hk
  rw [hb.ss] at k17 ⊢
  have hlt : k.toNat < (stepsL p f).length := by rw [hb.ok.len]; omega
  have e : (stepsL p f).getD k.toNat st0 = (stepsL p f)[k.toNat] := by simp [List.getD, List.getElem?_eq_getElem hlt]
  rw [e] at k17 ⊢
  rw [h.len]
  exact steps_call p f hb.fo _ (List.getElem_mem hlt) k17
/-- The functions that are called. -/
def ordF (bs : List BD) : List Int := (tourP (leadP bs) bs.length).order
theorem lead_tour {p : PG} {bs : List BD} (h : Bs p bs) : (0 : Int) ∈ ordF bs ∧ (∀ m ∈ ordF bs, 0 ≤ m ∧ m < bs.length) ∧ (∀ q : Nat, (q : Int) ∈ ordF bs → ∀ m ∈ leadP bs q, m ∈ ordF bs) ∧ (ordF bs).Nodup ∧
    (true ∉ (tourP (leadP bs) bs.length).again → ∀ (pre : List Int) (u : Nat) (post : List Int), ordF bs = pre ++ (u : Int) :: post → ∀ v ∈ leadP bs u, v ∈ pre) := by
  obtain ⟨hn, _⟩ := plain_ok p h.pl
  have hN : 0 < bs.length ∧ bs.length ≤ 64 := by rw [h.len]; omega
  have hR : ∀ n, n < bs.length → (fun _ : Nat => True) n → ∀ m ∈ leadP bs n, 0 ≤ m ∧ m < bs.length ∧ (fun _ : Nat => True) m.toNat := fun n hn _ m hm => by
    have := lead_rng h n hn m hm
    exact ⟨this.1, this.2, trivial⟩
  obtain ⟨a1, a2, a3⟩ := tour_all (leadP bs) bs.length (fun _ => True) hN.1 trivial hR
  obtain ⟨t1, t2, t3, t4⟩ := tour_J (leadP bs) bs.length (fun _ => True) hN.1 (by have := closed_big; omega) trivial hR
  refine ⟨a1, fun m hm => ⟨(a2 m hm).1, (a2 m hm).2.1⟩, a3, t4, fun hno pre u post he v hv => t3 pre u post he (fun hp => hno ?_) v hv⟩
  have hu : (u : Int) ∈ (tourP (leadP bs) bs.length).order := by
    have h9 : (tourP (leadP bs) bs.length).order = pre ++ (u : Int) :: post := he
    rw [h9]; simp
  have h1 := (t1 u hu).2 hp
  by_cases hl : u < (tourP (leadP bs) bs.length).again.length
  · have e : (tourP (leadP bs) bs.length).again.getD u false = (tourP (leadP bs) bs.length).again[u] := by simp [List.getD, List.getElem?_eq_getElem hl]
    rw [e] at h1
    rw [← h1]
    exact List.getElem_mem hl
  · have e : (tourP (leadP bs) bs.length).again.getD u false = false := by simp [List.getD, List.getElem?_eq_none (Nat.le_of_not_lt hl)]
    rw [e] at h1
    cases h1
/-- What is called is live. -/
theorem live_fold : ∀ (o : List Int) (l : List Bool) (m : Nat), m < l.length → (l.getD m false = true ∨ (m : Int) ∈ o) → (∀ x ∈ o, 0 ≤ x) → (o.foldl (fun l m => l.set m.toNat true) l).getD m false = true
  | [], l, m, hm, h, _ => by
    rcases h with h | h
    · exact h
    · simp at h
  | x :: o, l, m, hm, h, h0 => by
    refine live_fold o (l.set x.toNat true) m (by simpa using hm) ?_ (fun y hy => h0 y (by simp [hy]))
    by_cases hx : x.toNat = m
    · left
      subst hx
      simp [List.getD, List.getElem?_set, hm]
    · rcases h with h | h
      · left
        simpa [List.getD, List.getElem?_set, hx] using h
      · rcases List.mem_cons.1 h with h | h
        · have := h0 x (by simp)
          omega
        · exact .inr h
theorem fold_same (f g : List Int → Int → List Int) : ∀ (l a : List Int), (∀ m ∈ l, ∀ a, f a m = g a m) → l.foldl f a = l.foldl g a
  | [], a, _ => rfl
  | x :: l, a, h => by
    rw [List.foldl_cons, List.foldl_cons, h x (by simp)]
    exact fold_same f g l _ (fun m hm => h m (by simp [hm]))
theorem arr_congr (b : BD) (n : Nat) (o o' : List Int) (h : ∀ x ∈ namedP b, o.getD x.toNat 0 = o'.getD x.toNat 0) : arrP b n o = arrP b n o' := by
  unfold arrP
  refine fold_same _ _ _ _ (fun m hm a => ?_)
  unfold costF costC
  by_cases h17 : (b.ss.getD m.toNat st0).op = 17
  · rw [if_pos h17, if_pos h17, h _ (call_named b hm h17)]
  · rw [if_neg h17, if_neg h17]
theorem ord_len {ss : List ST} {n : Nat} (hok : SsOk ss n) {b : BD} (hb : bodyD ss n = .ok b) : b.order.length ≤ n := nodup_le n b.order (body_tour hok hb).2.2 (fun x hx => by
  obtain ⟨x0, x1, _⟩ := (order_iff hok hb).1 x hx
  exact ⟨x0, x1⟩)
theorem zero_ord {ss : List ST} {n : Nat} (hok : SsOk ss n) {b : BD} (hb : bodyD ss n = .ok b) : (0 : Int) ∈ b.order := by
  have hF := heights_fit ss n hok b.hs (body_shape hb).2.2.2
  have hn := hok.pos
  exact (order_iff hok hb).2 0 (by omega) (by rw [hF.z]; omega)
theorem arr_bnd {ss : List ST} {n : Nat} (hok : SsOk ss n) {b : BD} (hb : bodyD ss n = .ok b) (others : List Int) (hO : ∀ x ∈ others, 0 ≤ x ∧ x ≤ 1099511627776) : ∀ x ∈ arrP b n others, 0 ≤ x ∧ x ≤ 5000 * 1099511627777 := by
  have hl := ord_len hok hb
  have hn := hok.pos
  have h1 := foldP_bnd b others hO b.order (List.replicate n 0) 0 (by omega) (fun x hx => by rw [List.eq_of_mem_replicate hx]; simp)
  intro x hx
  have h2 := h1 x hx
  have h3 := mul_mono (0 + b.order.length) 5000 (by omega)
  exact ⟨h2.1, Int.le_trans h2.2 h3⟩
/-- What a cost bounds. -/
structure CostS (bs : List BD) (C : Nat → Nat → Int) : Prop where
  one : ∀ q : Nat, (q : Int) ∈ ordF bs → ∀ i : Nat, (i : Int) ∈ (bs.getD q bd0).order → 1 ≤ C q i
  go : ∀ q : Nat, (q : Int) ∈ ordF bs → ∀ i : Nat, (i : Int) ∈ (bs.getD q bd0).order → ∀ m ∈ ((bs.getD q bd0).ss.getD i st0).nx, 1 + (if ((bs.getD q bd0).ss.getD i st0).op = 17 then C ((bs.getD q bd0).ss.getD i st0).a.toNat 0 else 0) + C q m.toNat ≤ C q i
theorem val_nn {p : PG} {bs : List BD} (h : Bs p bs) (m : Int) (cs : List Int) (hcs : ∀ x ∈ cs, 0 ≤ x ∧ x ≤ 1099511627776) (hl : (bs.getD m.toNat bd0).loops = []) : 0 ≤ valC bs cs m := by
  unfold valC
  by_cases hm : m.toNat < bs.length
  · obtain ⟨f, b, hb⟩ := h.in' hm
    rw [hb.gd] at hl ⊢
    rw [hb.slen]
    have h1 := arr_spec hb.ok hb.bd hl cs hcs 0 (zero_ord hb.ok hb.bd)
    have h2 : costP b f.code.length cs = (arrP b f.code.length cs).getD 0 0 := rfl
    rw [h2]
    omega
  · have e : bs.getD m.toNat bd0 = bd0 := by simp [List.getD, List.getElem?_eq_none (Nat.le_of_not_lt hm)]
    rw [e]
    show (0 : Int) ≤ costP bd0 0 cs
    unfold costP
    simp [bd0]
theorem cost_spec {p : PG} {bs : List BD} (h : Bs p bs) (hc : 0 ≤ (factsP p bs).cost) : ∃ C, CostS bs C ∧ C 0 0 = (factsP p bs).cost := by
  obtain ⟨l1, l2, l3, l4, l5⟩ := lead_tour h
  obtain ⟨hn, _⟩ := plain_ok p h.pl
  have hno : true ∉ (tourP (leadP bs) bs.length).again := fun hy => by
    have h9 : (factsP p bs).cost = -1 := by unfold factsP; simp only; rw [if_pos hy]
    omega
  have hco : (factsP p bs).cost = costOfP bs (ordF bs) := by unfold factsP; simp only; rw [if_neg hno]; rfl
  cases hA : costG bs (ordF bs) (List.replicate bs.length 0) with
  | none =>
    have h9 : costOfP bs (ordF bs) = -1 := by unfold costOfP; rw [hA]
    omega
  | some A =>
    have hco2 : costOfP bs (ordF bs) = A.getD 0 0 := by unfold costOfP; rw [hA]
    have hz : ∀ x ∈ List.replicate bs.length (0 : Int), 0 ≤ x ∧ x ≤ 1099511627776 := fun x hx => by rw [List.eq_of_mem_replicate hx]; omega
    obtain ⟨g1, g2, g3⟩ := costG_ok bs (fun m cs h1 h2 => val_nn h m cs h1 h2) (ordF bs) (List.replicate bs.length 0) A hz hA
    have hff := fold_fix (valC bs) (fun m => leadP bs m.toNat) (fun cs cs' m hd => by
      show (arrP _ _ cs).getD 0 0 = (arrP _ _ cs').getD 0 0
      rw [arr_congr _ _ cs cs' hd]) bs.length (fun _ => True) (ordF bs) [] (List.replicate bs.length 0) (by simp) (by simpa using l4) (fun m hm => l2 m (by simpa using hm)) (fun pre m post he x hx => by
      have hm : m ∈ ordF bs := by rw [List.nil_append] at he; rw [he]; simp
      have h0 := (l2 m hm).1
      obtain ⟨u, hu⟩ : ∃ u : Nat, m = (u : Int) := ⟨m.toNat, by omega⟩
      subst hu
      simp only [Int.toNat_natCast] at hx
      exact l5 hno pre u post (by simpa using he) x hx) (fun m hm => by simp at hm) (fun _ _ _ _ => trivial)
    have hA' : A = (ordF bs).foldl (fun cs m => cs.set m.toNat (valC bs cs m)) (List.replicate bs.length 0) := g1
    rw [← hA'] at hff
    have hfix : ∀ q : Nat, (q : Int) ∈ ordF bs → A.getD q 0 = valC bs A q := fun q hq => by
      have := (hff.2 (q : Int) (by simpa using hq)).1
      simpa using this
    have hlp : ∀ q : Nat, (q : Int) ∈ ordF bs → (bs.getD q bd0).loops = [] := fun q hq => by
      obtain ⟨pre, post, he⟩ := List.append_of_mem hq
      have := (g3 pre (q : Int) post he).1
      simpa using this
    refine ⟨fun q i => (arrP (bs.getD q bd0) (bs.getD q bd0).ss.length A).getD i 0, ⟨fun q hq i hi => ?_, fun q hq i hi m hm => ?_⟩, ?_⟩
    · have hql := l2 _ hq
      obtain ⟨f, b, hb⟩ := h.in' (q := q) (by omega)
      have hl := hlp q hq
      rw [hb.gd] at hi hl ⊢
      rw [hb.slen]
      exact (arr_spec hb.ok hb.bd hl A g2 i hi).1
    · have hql := l2 _ hq
      obtain ⟨f, b, hb⟩ := h.in' (q := q) (by omega)
      have hl := hlp q hq
      have hca : ∀ k : Nat, (k : Int) ∈ ordF bs → (arrP (bs.getD k bd0) (bs.getD k bd0).ss.length A).getD 0 0 = A.getD k 0 := fun k hk => by
        rw [hfix k hk]
        unfold valC
        simp only [Int.toNat_natCast]
        rfl
      have hled := l3 q hq
      unfold leadP at hled
      rw [hb.gd] at hi hl hm hled ⊢
      have h1 := (arr_spec hb.ok hb.bd hl A g2 i hi).2
      rw [← hb.ss, ← hb.slen] at h1
      have hbn := arr_bnd hb.ok hb.bd A g2
      rw [← hb.slen] at hbn
      generalize hX : arrP b b.ss.length A = X at h1 hbn ⊢
      obtain ⟨m1, m2, m3⟩ := costM_ge X (b.ss.getD i st0).nx 0
      have m4 := m2 m hm
      have m5 := m3 (5000 * 1099511627777) (by omega) (fun x hx => (getD_bnd hbn (by omega) x.toNat).2)
      unfold costC at h1
      by_cases h17 : (b.ss.getD i st0).op = 17
      · rw [if_pos h17] at h1 ⊢
        have hcn : (b.ss.getD i st0).a ∈ ordF bs := hled _ (by
          have := call_named b hi (by simpa using h17)
          simpa using this)
        have ha0 := l2 _ hcn
        obtain ⟨k, hk⟩ : ∃ k : Nat, (b.ss.getD i st0).a = (k : Int) := ⟨(b.ss.getD i st0).a.toNat, by omega⟩
        rw [hk] at hcn h1 ⊢
        simp only [Int.toNat_natCast] at h1 ⊢
        rw [hca k hcn]
        have hb2 := getD_bnd g2 (by omega) k
        rw [wrap_id (by omega) (by omega)] at h1
        omega
      · rw [if_neg h17] at h1 ⊢
        omega
    · rw [hco, hco2]
      have := hfix 0 l1
      rw [this]
      rfl
end Go.Proofs.YtcaadgcfceommaaGreat

namespace Go.Proofs.YtcaadgcfceommaaGreat
open Go.RowKit
set_option linter.unusedVariables false
set_option linter.unusedSimpArgs false
set_option maxRecDepth 100000

def valK (p : PG) (bs : List BD) (cs : List Int) (m : Int) : Int := cellsP (bs.getD m.toNat bd0) (locOf p m.toNat) cs
/-- Heights at places that are reached. -/
theorem hs_rng {ss : List ST} {n : Nat} (hok : SsOk ss n) {b : BD} (hb : bodyD ss n = .ok b) {m : Int} (hm : m ∈ b.order) : 0 ≤ b.hs.getD m.toNat 0 ∧ b.hs.getD m.toNat 0 ≤ 256 ∧ 0 ≤ (b.ss.getD m.toNat st0).tk ∧ (b.ss.getD m.toNat st0).tk ≤ 1000 ∧ ((b.ss.getD m.toNat st0).op = 17 → (b.ss.getD m.toNat st0).tk ≤ b.hs.getD m.toNat 0) := by
  have hF := heights_fit ss n hok b.hs (body_shape hb).2.2.2
  obtain ⟨m0, m1, m2⟩ := (order_iff hok hb).1 m hm
  have hlt : m.toNat < ss.length := by rw [hok.len]; omega
  have hs1 : ss[m.toNat]? = some ss[m.toNat] := List.getElem?_eq_getElem hlt
  have hlo := hF.lo _ (getD_mem (l := b.hs) (i := m.toNat) (by rw [hF.len]; omega))
  obtain ⟨f1, _⟩ := hF.ok m.toNat _ (by omega) hs1 m2
  have hst := hok.stb _ (List.mem_of_getElem? hs1)
  rw [(body_shape hb).1, getD_some hs1]
  refine ⟨by omega, hlo.2, hst.tk.1, hst.tk.2, fun h17 => ?_⟩
  unfold faultS at f1
  split at f1
  · cases f1
  · split at f1
    · cases f1
    · rename_i hw
      unfold wantsS at hw
      rw [if_neg (by omega)] at hw
      omega
theorem top_rng {ss : List ST} {n : Nat} (hok : SsOk ss n) {b : BD} (hb : bodyD ss n = .ok b) : 0 ≤ topP b ∧ topP b ≤ 256 := by
  have hT := top_is hok hb
  have hF := heights_fit ss n hok b.hs (body_shape hb).2.2.2
  refine ⟨hT.lo, ?_⟩
  rcases hT.is with e | ⟨i, s, hi, hs, hne, e | e⟩
  · omega
  · have hlo := hF.lo _ (getD_mem (l := b.hs) (i := i) (by rw [hF.len]; omega))
    omega
  · obtain ⟨f1, _⟩ := hF.ok i _ hi hs hne
    have hsm := List.mem_of_getElem? hs
    have := fault_zero (hok.stb _ hsm) (hok.cp _ hsm) (fun m hm => (hok.nx _ hsm).1 m hm) f1
    omega
/-- What the fold over the calls comes to. -/
theorem cellF_fold (b : BD) (others : List Int) (M : Int) (hM : 0 ≤ M ∧ M ≤ 1000000) (hO : ∀ x ∈ others, 0 ≤ x ∧ x ≤ M) : ∀ (l : List Int) (t : Int), 0 ≤ t → t ≤ 256 + M →
    (∀ m ∈ l, 0 ≤ b.hs.getD m.toNat 0 ∧ b.hs.getD m.toNat 0 ≤ 256 ∧ 0 ≤ (b.ss.getD m.toNat st0).tk ∧ (b.ss.getD m.toNat st0).tk ≤ b.hs.getD m.toNat 0) →
    t ≤ l.foldl (cellF b others) t ∧ l.foldl (cellF b others) t ≤ 256 + M ∧ ∀ m ∈ l, b.hs.getD m.toNat 0 - (b.ss.getD m.toNat st0).tk + others.getD (b.ss.getD m.toNat st0).a.toNat 0 ≤ l.foldl (cellF b others) t
  | [], t, h0, h1, _ => ⟨Int.le_refl _, h1, fun m hm => by simp at hm⟩
  | m :: l, t, h0, h1, h => by
    obtain ⟨a1, a2, a3, a4⟩ := h m (by simp)
    obtain ⟨o1, o2⟩ := getD_bnd hO hM.1 (b.ss.getD m.toNat st0).a.toNat
    obtain ⟨t', ht'⟩ : ∃ t', t' = cellF b others t m := ⟨_, rfl⟩
    have e : t' = max2 t (b.hs.getD m.toNat 0 - (b.ss.getD m.toNat st0).tk + others.getD (b.ss.getD m.toNat st0).a.toNat 0) := by
      rw [ht']
      unfold cellF
      rw [wrap_id (x := b.hs.getD m.toNat 0 - (b.ss.getD m.toNat st0).tk) (by omega) (by omega), wrap_id (by omega) (by omega)]
    obtain ⟨x1, x2, x3⟩ := max2_ge t (b.hs.getD m.toNat 0 - (b.ss.getD m.toNat st0).tk + others.getD (b.ss.getD m.toNat st0).a.toNat 0)
    rw [← e] at x1 x2 x3
    obtain ⟨r1, r2, r3⟩ := cellF_fold b others M hM hO l t' (by omega) (by omega) (fun k hk => h k (by simp [hk]))
    rw [List.foldl_cons, ← ht']
    refine ⟨by omega, r2, fun k hk => ?_⟩
    rcases List.mem_cons.1 hk with rfl | hk
    · omega
    · exact r3 k hk
theorem loc_rng {p : PG} {bs : List BD} {q : Nat} {f : FN} {b : BD} (h : BAt p bs q f b) : locOf p q = f.l ∧ 0 ≤ f.l ∧ f.l ≤ 64 := by
  refine ⟨?_, h.fo.l⟩
  unfold locOf
  rw [h.fn]
  rfl
theorem cells_val {p : PG} {bs : List BD} {q : Nat} {f : FN} {b : BD} (h : BAt p bs q f b) (others : List Int) (M : Int) (hM : 0 ≤ M ∧ M ≤ 1000000) (hO : ∀ x ∈ others, 0 ≤ x ∧ x ≤ M) :
    (0 ≤ cellsP b (locOf p q) others ∧ cellsP b (locOf p q) others ≤ M + 1000) ∧ (∀ m ∈ b.order, 1 + f.l + b.hs.getD m.toNat 0 ≤ cellsP b (locOf p q) others) ∧
    ∀ m ∈ b.order, (b.ss.getD m.toNat st0).op = 17 → 1 + f.l + (b.hs.getD m.toNat 0 - (b.ss.getD m.toNat st0).tk) + others.getD (b.ss.getD m.toNat st0).a.toNat 0 ≤ cellsP b (locOf p q) others := by
  obtain ⟨l1, l2, l3⟩ := loc_rng h
  obtain ⟨t1, t2⟩ := top_rng h.ok h.bd
  obtain ⟨c1, c2, c3⟩ := cellF_fold b others M hM hO (callsP b) (topP b) t1 (by omega) (fun m hm => by
    have h1 := List.mem_filter.1 hm
    obtain ⟨a1, a2, a3, a4, a5⟩ := hs_rng h.ok h.bd h1.1
    exact ⟨a1, a2, a3, a5 (of_decide_eq_true h1.2)⟩)
  have e : cellsP b (locOf p q) others = 1 + f.l + (callsP b).foldl (cellF b others) (topP b) := by
    unfold cellsP
    rw [l1, wrap_id (x := 1 + f.l) (by omega) (by omega), wrap_id (by omega) (by omega)]
  rw [e]
  refine ⟨⟨by omega, by omega⟩, fun m hm => ?_, fun m hm h17 => ?_⟩
  · have h1 := (topF_fold b b.order 0).2.1 m hm
    have h2 : topP b = b.order.foldl (topF b) 0 := rfl
    rw [← h2] at h1
    omega
  · have := c3 m (List.mem_filter.2 ⟨hm, decide_eq_true h17⟩)
    omega
theorem foldI_same (f g : Int → Int → Int) : ∀ (l : List Int) (a : Int), (∀ m ∈ l, ∀ a, f a m = g a m) → l.foldl f a = l.foldl g a
  | [], a, _ => rfl
  | x :: l, a, h => by
    rw [List.foldl_cons, List.foldl_cons, h x (by simp)]
    exact foldI_same f g l _ (fun m hm => h m (by simp [hm]))
theorem cells_congr (b : BD) (loc : Int) (o o' : List Int) (h : ∀ x ∈ namedP b, o.getD x.toNat 0 = o'.getD x.toNat 0) : cellsP b loc o = cellsP b loc o' := by
  unfold cellsP
  rw [foldI_same (cellF b o) (cellF b o') _ _ (fun m hm a => by
    have h1 := List.mem_filter.1 hm
    unfold cellF
    rw [h _ (call_named b h1.1 (of_decide_eq_true h1.2))])]
theorem mul_mono2 (a b : Nat) (h : a ≤ b) : (a : Int) * 1000 ≤ (b : Int) * 1000 := by omega
theorem foldK_bnd {p : PG} {bs : List BD} (h : Bs p bs) : ∀ (o cs : List Int) (k : Nat), k + o.length ≤ 64 → (∀ m ∈ o, 0 ≤ m ∧ m < bs.length) → (∀ x ∈ cs, 0 ≤ x ∧ x ≤ (k : Int) * 1000) → ∀ x ∈ o.foldl (fun cs m => cs.set m.toNat (valK p bs cs m)) cs, 0 ≤ x ∧ x ≤ ((k + o.length : Nat) : Int) * 1000
  | [], cs, k, hk, ho, hc => by simpa using hc
  | m :: o, cs, k, hk, ho, hc => by
    have hm := ho m (by simp)
    obtain ⟨f, b, hb⟩ := h.in' (q := m.toNat) (by omega)
    have hk' : k + (o.length + 1) ≤ 64 := by simpa using hk
    obtain ⟨⟨v1, v2⟩, _⟩ := cells_val hb cs ((k : Int) * 1000) (by omega) hc
    have hv : valK p bs cs m = cellsP b (locOf p m.toNat) cs := by unfold valK; rw [hb.gd]
    rw [← hv] at v1 v2
    have h9 := foldK_bnd h o (cs.set m.toNat (valK p bs cs m)) (k + 1) (by omega) (fun x hx => ho x (by simp [hx])) (fun x hx => by
      rcases List.mem_or_eq_of_mem_set hx with hx | rfl
      · have := hc x hx
        omega
      · omega)
    have e : k + (m :: o).length = k + 1 + o.length := by simp; omega
    rw [e]
    exact h9
/-- What the number of cells bounds. -/
structure CellS (p : PG) (bs : List BD) (K : Nat → Int) : Prop where
  pos : ∀ q : Nat, (q : Int) ∈ ordF bs → 0 ≤ K q ∧ K q ≤ 64000
  top : ∀ q : Nat, (q : Int) ∈ ordF bs → ∀ i : Nat, (i : Int) ∈ (bs.getD q bd0).order → 1 + locOf p q + (bs.getD q bd0).hs.getD i 0 ≤ K q
  call : ∀ q : Nat, (q : Int) ∈ ordF bs → ∀ i : Nat, (i : Int) ∈ (bs.getD q bd0).order → ((bs.getD q bd0).ss.getD i st0).op = 17 → 1 + locOf p q + ((bs.getD q bd0).hs.getD i 0 - ((bs.getD q bd0).ss.getD i st0).tk) + K ((bs.getD q bd0).ss.getD i st0).a.toNat ≤ K q
theorem cell_spec {p : PG} {bs : List BD} (h : Bs p bs) (hc : 0 ≤ (factsP p bs).cells) : ∃ K, CellS p bs K ∧ K 0 = (factsP p bs).cells := by
  obtain ⟨l1, l2, l3, l4, l5⟩ := lead_tour h
  obtain ⟨hn, _⟩ := plain_ok p h.pl
  have hno : true ∉ (tourP (leadP bs) bs.length).again := fun hy => by
    have h9 : (factsP p bs).cells = -1 := by unfold factsP; simp only; rw [if_pos hy]
    omega
  have hco : (factsP p bs).cells = cellsOfP p bs (ordF bs) := by unfold factsP; simp only; rw [if_neg hno]; rfl
  obtain ⟨A, hA⟩ : ∃ A, A = (ordF bs).foldl (fun cs m => cs.set m.toNat (valK p bs cs m)) (List.replicate bs.length 0) := ⟨_, rfl⟩
  have hco2 : cellsOfP p bs (ordF bs) = A.getD 0 0 := by rw [hA]; rfl
  have hol : (ordF bs).length ≤ 64 := by
    have h1 := nodup_le bs.length (ordF bs) l4 l2
    have h2 := h.len
    omega
  have g2 := foldK_bnd h (ordF bs) (List.replicate bs.length 0) 0 (by omega) l2 (fun x hx => by rw [List.eq_of_mem_replicate hx]; simp)
  rw [← hA] at g2
  have g3 : ∀ x ∈ A, 0 ≤ x ∧ x ≤ 64000 := fun x hx => by
    have h1 := g2 x hx
    have h2 := mul_mono2 (0 + (ordF bs).length) 64 (by omega)
    exact ⟨h1.1, Int.le_trans h1.2 h2⟩
  have hff := fold_fix (valK p bs) (fun m => leadP bs m.toNat) (fun cs cs' m hd => cells_congr _ _ cs cs' hd) bs.length (fun _ => True) (ordF bs) [] (List.replicate bs.length 0) (by simp) (by simpa using l4) (fun m hm => l2 m (by simpa using hm)) (fun pre m post he x hx => by
    have hm : m ∈ ordF bs := by rw [List.nil_append] at he; rw [he]; simp
    have h0 := (l2 m hm).1
    obtain ⟨u, hu⟩ : ∃ u : Nat, m = (u : Int) := ⟨m.toNat, by omega⟩
    subst hu
    simp only [Int.toNat_natCast] at hx
    exact l5 hno pre u post (by simpa using he) x hx) (fun m hm => by simp at hm) (fun _ _ _ _ => trivial)
  rw [← hA] at hff
  have hfix : ∀ q : Nat, (q : Int) ∈ ordF bs → A.getD q 0 = valK p bs A q := fun q hq => by
    have := (hff.2 (q : Int) (by simpa using hq)).1
    simpa using this
  refine ⟨fun q => A.getD q 0, ⟨fun q hq => getD_bnd g3 (by omega) q, fun q hq i hi => ?_, fun q hq i hi h17 => ?_⟩, ?_⟩
  · have hql := l2 _ hq
    obtain ⟨f, b, hb⟩ := h.in' (q := q) (by omega)
    have h1 := cells_val hb A 64000 (by omega) g3
    have e : valK p bs A q = cellsP b (locOf p q) A := by unfold valK; simp only [Int.toNat_natCast]; rw [hb.gd]
    rw [hfix q hq, e, (loc_rng hb).1]
    rw [hb.gd] at hi ⊢
    have h2 := h1.2.1 _ hi
    rw [(loc_rng hb).1] at h2
    simpa using h2
  · have hql := l2 _ hq
    obtain ⟨f, b, hb⟩ := h.in' (q := q) (by omega)
    have h1 := cells_val hb A 64000 (by omega) g3
    have e : valK p bs A q = cellsP b (locOf p q) A := by unfold valK; simp only [Int.toNat_natCast]; rw [hb.gd]
    rw [hfix q hq, e, (loc_rng hb).1]
    rw [hb.gd] at hi h17 ⊢
    have h2 := h1.2.2 _ hi (by simpa using h17)
    rw [(loc_rng hb).1] at h2
    simpa using h2
  · rw [hco, hco2]
end Go.Proofs.YtcaadgcfceommaaGreat

namespace Go.Proofs.YtcaadgcfceommaaGreat
open Go.RowKit
set_option linter.unusedVariables false
set_option linter.unusedSimpArgs false
set_option maxRecDepth 100000

/-- A call under way. -/
structure FR where
  fn : Nat
  at' : Nat
  high : Int
  been : List Bool
def stO (bs : List BD) (q i : Nat) : ST := (bs.getD q bd0).ss.getD i st0
def hsO (bs : List BD) (q i : Nat) : Int := (bs.getD q bd0).hs.getD i 0
def inO (bs : List BD) (q i : Nat) : Prop := (q : Int) ∈ ordF bs ∧ (i : Int) ∈ (bs.getD q bd0).order
structure FrOk (bs : List BD) (c : FR) : Prop where
  in' : inO bs c.fn c.at'
  len : c.been.length = (bs.getD c.fn bd0).ss.length
  been : ∀ i, c.been.getD i false = true → Plus (nxOf (bs.getD c.fn bd0).ss) i c.at'
def sumC (C : Nat → Nat → Int) : List FR → Int
  | [] => 0
  | c :: cs => C c.fn c.at' + sumC C cs
def sumK (p : PG) : List FR → Int
  | [] => 0
  | c :: cs => 1 + locOf p c.fn + c.high + sumK p cs
/-- The calls that wait, the last one first; q: the function that the last one called. -/
def Susp (p : PG) (bs : List BD) (K : Nat → Int) : List FR → Nat → Prop
  | [], q => q = 0
  | c :: cs, q => FrOk bs c ∧ (∃ i : Nat, inO bs c.fn i ∧ (stO bs c.fn i).op = 17 ∧ (stO bs c.fn i).a = q ∧ (c.at' : Int) ∈ (stO bs c.fn i).nx ∧ c.high = hsO bs c.fn i - (stO bs c.fn i).tk) ∧
    (0 ≤ (factsP p bs).cells → sumK p cs + K c.fn ≤ (factsP p bs).cells) ∧ Susp p bs K cs c.fn
structure WI (p : PG) (bs : List BD) (C : Nat → Nat → Int) (K : Nat → Int) (cs : List FR) (now : FR) (done : Int) : Prop where
  ok : FrOk bs now
  high : now.high = hsO bs now.fn now.at'
  su : Susp p bs K cs now.fn
  cost : 0 ≤ (factsP p bs).cost → done + C now.fn now.at' + sumC C cs ≤ (factsP p bs).cost
  cell : 0 ≤ (factsP p bs).cells → sumK p cs + K now.fn ≤ (factsP p bs).cells
/-- A place that is reached. -/
structure Plc (p : PG) (bs : List BD) (q i : Nat) (f : FN) (b : BD) (x : IN) : Prop where
  ba : BAt p bs q f b
  li : i < f.code.length
  cx : f.code[i]? = some x
  st : stO bs q i = stepAt p f i x
  hl : b.hs.length = f.code.length
  lo : 0 ≤ hsO bs q i ∧ hsO bs q i ≤ 256
  ft : faultS (stepAt p f i x) (hsO bs q i) f.code.length = 0
  nx : ∀ m ∈ wayL x i, 0 ≤ m ∧ m < f.code.length ∧ inO bs q m.toNat ∧ hsO bs q m.toNat = behindS (stepAt p f i x) (hsO bs q i)
theorem place {p : PG} {bs : List BD} (h : Bs p bs) {q i : Nat} (hi : inO bs q i) : ∃ f b x, Plc p bs q i f b x := by
  obtain ⟨_, l2, _⟩ := lead_tour h
  obtain ⟨hq, ho⟩ := hi
  have hql := l2 _ hq
  obtain ⟨f, b, hb⟩ := h.in' (q := q) (by omega)
  rw [hb.gd] at ho
  have hod := order_iff hb.ok hb.bd
  obtain ⟨o1, o2, o3⟩ := hod.1 _ ho
  simp only [Int.toNat_natCast] at o3
  have hi : i < f.code.length := by omega
  have hx : f.code[i]? = some f.code[i] := List.getElem?_eq_getElem hi
  have hF := heights_fit _ _ hb.ok b.hs (body_shape hb.bd).2.2.2
  have hs1 := steps_at (p := p) hx
  obtain ⟨f1, f2⟩ := hF.ok i _ hi hs1 o3
  have hsm := List.mem_of_getElem? hs1
  have fz := fault_zero (hb.ok.stb _ hsm) (hb.ok.cp _ hsm) (fun m hm => (hb.ok.nx _ hsm).1 m hm) f1
  have eh : ∀ k, hsO bs q k = b.hs.getD k 0 := fun k => by unfold hsO; rw [hb.gd]
  have hr := hs_rng hb.ok hb.bd ho
  simp only [Int.toNat_natCast] at hr
  refine ⟨f, b, _, hb, hi, hx, ?_, hF.len, by rw [eh]; exact ⟨hr.1, hr.2.1⟩, by rw [eh]; exact f1, fun m hm => ?_⟩
  · unfold stO
    rw [hb.gd, hb.ss, getD_some hs1]
  · obtain ⟨m0, m1, m2⟩ := f2 m hm
    refine ⟨m0, m1, ⟨hq, ?_⟩, by rw [eh, eh]; exact m2⟩
    rw [hb.gd]
    exact hod.2 m.toNat (by omega) (by rw [m2]; omega)
theorem sumC_nn {p : PG} {bs : List BD} {C : Nat → Nat → Int} {K : Nat → Int} (hC : CostS bs C) : ∀ (cs : List FR) (q : Nat), Susp p bs K cs q → 0 ≤ sumC C cs
  | [], q, _ => Int.le_refl _
  | c :: cs, q, h => by
    have h1 := sumC_nn hC cs c.fn h.2.2.2
    have h2 := hC.one c.fn h.1.in'.1 c.at' h.1.in'.2
    show 0 ≤ C c.fn c.at' + sumC C cs
    omega
/-- The numbers that bound. -/
structure Bnd (p : PG) (bs : List BD) (C : Nat → Nat → Int) (K : Nat → Int) : Prop where
  hb : Bs p bs
  c : 0 ≤ (factsP p bs).cost → CostS bs C ∧ C 0 0 = (factsP p bs).cost
  k : 0 ≤ (factsP p bs).cells → CellS p bs K ∧ K 0 = (factsP p bs).cells
theorem bnd_some {p : PG} {bs : List BD} (h : Bs p bs) : ∃ C K, Bnd p bs C K := by
  have h1 : ∃ C, 0 ≤ (factsP p bs).cost → CostS bs C ∧ C 0 0 = (factsP p bs).cost := by
    by_cases hc : 0 ≤ (factsP p bs).cost
    · obtain ⟨C, h1⟩ := cost_spec h hc
      exact ⟨C, fun _ => h1⟩
    · exact ⟨fun _ _ => 0, fun h => absurd h hc⟩
  have h2 : ∃ K, 0 ≤ (factsP p bs).cells → CellS p bs K ∧ K 0 = (factsP p bs).cells := by
    by_cases hc : 0 ≤ (factsP p bs).cells
    · obtain ⟨C, h1⟩ := cell_spec h hc
      exact ⟨C, fun _ => h1⟩
    · exact ⟨fun _ => 0, fun h => absurd h hc⟩
  obtain ⟨C, h1⟩ := h1
  obtain ⟨K, h2⟩ := h2
  exact ⟨C, K, h, h1, h2⟩
/-- A call begins. -/
theorem fr_new {p : PG} {bs : List BD} (h : Bs p bs) {q : Nat} (hq : (q : Int) ∈ ordF bs) (n : Nat) (hn : n = (bs.getD q bd0).ss.length) : FrOk bs ⟨q, 0, 0, List.replicate n false⟩ ∧ hsO bs q 0 = 0 := by
  obtain ⟨_, l2, _⟩ := lead_tour h
  have hql := l2 _ hq
  obtain ⟨f, b, hb⟩ := h.in' (q := q) (by omega)
  refine ⟨⟨⟨hq, ?_⟩, by simp [hn], fun i hi => ?_⟩, ?_⟩
  · show ((0 : Nat) : Int) ∈ _
    rw [hb.gd]
    exact zero_ord hb.ok hb.bd
  · exfalso
    by_cases hl : i < n
    · simp [List.getD, hl] at hi
    · simp [List.getD, hl] at hi
  · unfold hsO
    rw [hb.gd]
    exact (heights_fit _ _ hb.ok b.hs (body_shape hb.bd).2.2.2).z
theorem WI.start {p : PG} {bs : List BD} {C : Nat → Nat → Int} {K : Nat → Int} (h : Bnd p bs C K) (n : Nat) (hn : n = (bs.getD 0 bd0).ss.length) : WI p bs C K [] ⟨0, 0, 0, List.replicate n false⟩ 0 := by
  obtain ⟨l1, _⟩ := lead_tour h.hb
  obtain ⟨f1, f2⟩ := fr_new h.hb l1 n hn
  refine ⟨f1, f2.symm, rfl, fun hc => ?_, fun hc => ?_⟩
  · have := (h.c hc).2
    show 0 + C 0 0 + 0 ≤ _
    omega
  · have := (h.k hc).2
    show 0 + K 0 ≤ _
    omega
/-- Ahead of each instruction. -/
theorem WI.sees {p : PG} {bs : List BD} {C : Nat → Nat → Int} {K : Nat → Int} (hB : Bnd p bs C K) {cs : List FR} {now : FR} {done : Int} (h : WI p bs C K cs now done) :
    (factsP p bs).live.getD now.fn false = true ∧ (now.been.getD now.at' false = true → (now.at' : Int) ∈ (bs.getD now.fn bd0).loops) ∧ (0 ≤ (factsP p bs).cost → done < (factsP p bs).cost) ∧ (0 ≤ (factsP p bs).cells → sumK p (now :: cs) ≤ (factsP p bs).cells) := by
  obtain ⟨l1, l2, _⟩ := lead_tour hB.hb
  refine ⟨?_, fun hb => ?_, fun hc => ?_, fun hc => ?_⟩
  · have hq := l2 _ h.ok.in'.1
    exact live_fold _ _ _ (by simp; omega) (.inr h.ok.in'.1) (fun x hx => (l2 x hx).1)
  · have hp := h.ok.been _ hb
    have hq := l2 _ h.ok.in'.1
    obtain ⟨f, b, hb⟩ := hB.hb.in' (q := now.fn) (by omega)
    have hi := h.ok.in'.2
    rw [hb.gd] at hi hp ⊢
    rw [hb.ss] at hp
    exact (body_tour hb.ok hb.bd).1 _ hi hp
  · have h1 := h.cost hc
    have h2 := (hB.c hc).1.one _ h.ok.in'.1 _ h.ok.in'.2
    have h3 := sumC_nn (hB.c hc).1 cs _ h.su
    omega
  · have h1 := h.cell hc
    have h2 := (hB.k hc).1.top _ h.ok.in'.1 _ h.ok.in'.2
    have h3 := h.high
    unfold hsO at h3
    show 1 + locOf p now.fn + now.high + sumK p cs ≤ _
    omega
/-- A place is marked and left. -/
theorem FrOk.step {bs : List BD} {now : FR} (h : FrOk bs now) {m : Nat} (hm : (m : Int) ∈ (stO bs now.fn now.at').nx) (hi : inO bs now.fn m) (hh : Int) : FrOk bs ⟨now.fn, m, hh, now.been.set now.at' true⟩ := by
  have hp : Plus (nxOf (bs.getD now.fn bd0).ss) now.at' m := ⟨m, hm, .refl m⟩
  refine ⟨hi, by rw [List.length_set]; exact h.len, fun i hb => ?_⟩
  by_cases e : i = now.at'
  · subst e
    exact hp
  · have h1 : (now.been.set now.at' true).getD i false = now.been.getD i false := by simp [List.getD, List.getElem?_set, Ne.symm e]
    rw [h1] at hb
    exact (h.been i hb).trans hp.star
theorem WI.go {p : PG} {bs : List BD} {C : Nat → Nat → Int} {K : Nat → Int} (hB : Bnd p bs C K) {cs : List FR} {now : FR} {done : Int} (h : WI p bs C K cs now done) {f : FN} {b : BD} {x : IN} (hp : Plc p bs now.fn now.at' f b x) (h17 : x.op ≠ 17) {m : Nat} (hm : (m : Int) ∈ wayL x now.at') :
    WI p bs C K cs ⟨now.fn, m, now.high - (tkgv p f x).1 + (tkgv p f x).2, now.been.set now.at' true⟩ (done + 1) := by
  obtain ⟨m0, m1, m2, m3⟩ := hp.nx _ hm
  simp only [Int.toNat_natCast] at m2 m3
  have hn : (m : Int) ∈ (stO bs now.fn now.at').nx := by rw [hp.st]; exact hm
  refine ⟨h.ok.step hn m2 _, ?_, h.su, fun hc => ?_, h.cell⟩
  · show now.high - (tkgv p f x).1 + (tkgv p f x).2 = hsO bs now.fn m
    rw [m3, h.high]
    rfl
  · have h1 := h.cost hc
    have h2 := (hB.c hc).1.go _ h.ok.in'.1 _ h.ok.in'.2 _ hn
    rw [if_neg (by show (stO bs now.fn now.at').op ≠ 17; rw [hp.st]; exact h17)] at h2
    simp only [Int.toNat_natCast] at h2
    show done + 1 + C now.fn m + sumC C cs ≤ _
    omega
theorem WI.call {p : PG} {bs : List BD} {C : Nat → Nat → Int} {K : Nat → Int} (hB : Bnd p bs C K) {cs : List FR} {now : FR} {done : Int} (h : WI p bs C K cs now done) {f : FN} {b : BD} {x : IN} (hp : Plc p bs now.fn now.at' f b x) (h17 : x.op = 17) {m : Nat} (hm : (m : Int) ∈ wayL x now.at') :
    0 ≤ x.a ∧ x.a < bs.length ∧ ∀ n, n = (bs.getD x.a.toNat bd0).ss.length → WI p bs C K (⟨now.fn, m, now.high - (tkgv p f x).1, now.been.set now.at' true⟩ :: cs) ⟨x.a.toNat, 0, 0, List.replicate n false⟩ (done + 1) := by
  obtain ⟨l1, l2, l3, _⟩ := lead_tour hB.hb
  obtain ⟨m0, m1, m2, m3⟩ := hp.nx _ hm
  simp only [Int.toNat_natCast] at m2 m3
  have hn : (m : Int) ∈ (stO bs now.fn now.at').nx := by rw [hp.st]; exact hm
  have ho : (stO bs now.fn now.at').op = 17 := by rw [hp.st]; exact h17
  have ha : (stO bs now.fn now.at').a = x.a := by rw [hp.st]; rfl
  have hca : x.a ∈ ordF bs := by
    refine l3 now.fn h.ok.in'.1 _ ?_
    rw [← ha]
    have h9 : ((bs.getD now.fn bd0).ss.getD ((now.at' : Int)).toNat st0).op = 17 := by rw [Int.toNat_natCast]; exact ho
    have h8 := call_named (bs.getD now.fn bd0) h.ok.in'.2 h9
    rw [Int.toNat_natCast] at h8
    exact h8
  have hr := l2 _ hca
  obtain ⟨k, hk⟩ : ∃ k : Nat, x.a = (k : Int) := ⟨x.a.toNat, by omega⟩
  rw [hk] at hca ha ⊢
  simp only [Int.toNat_natCast]
  refine ⟨by omega, by omega, fun n hnl => ?_⟩
  obtain ⟨f1, f2⟩ := fr_new hB.hb hca n hnl
  have htk : (stO bs now.fn now.at').tk = (tkgv p f x).1 := by rw [hp.st]; rfl
  refine ⟨f1, f2.symm, ⟨h.ok.step hn m2 _, ⟨now.at', h.ok.in', ho, ha, hn, ?_⟩, h.cell, h.su⟩, fun hc => ?_, fun hc => ?_⟩
  · show now.high - (tkgv p f x).1 = _
    rw [htk, h.high]
  · have h1 := h.cost hc
    have h2 := (hB.c hc).1.go _ h.ok.in'.1 _ h.ok.in'.2 _ hn
    have ho' : ((bs.getD now.fn bd0).ss.getD now.at' st0).op = 17 := ho
    rw [if_pos ho'] at h2
    have e : ((bs.getD now.fn bd0).ss.getD now.at' st0).a = (k : Int) := ha
    rw [e] at h2
    simp only [Int.toNat_natCast] at h2
    show done + 1 + C k 0 + (C now.fn m + sumC C cs) ≤ _
    omega
  · have h1 := h.cell hc
    have h2 := (hB.k hc).1.call _ h.ok.in'.1 _ h.ok.in'.2 ho
    have e : ((bs.getD now.fn bd0).ss.getD now.at' st0).a = (k : Int) := ha
    have e2 : ((bs.getD now.fn bd0).ss.getD now.at' st0).tk = (tkgv p f x).1 := htk
    rw [e, e2] at h2
    simp only [Int.toNat_natCast] at h2
    have h3 := h.high
    unfold hsO at h3
    show 1 + locOf p now.fn + (now.high - (tkgv p f x).1) + sumK p cs + K k ≤ _
    omega
theorem WI.ret {p : PG} {bs : List BD} {C : Nat → Nat → Int} {K : Nat → Int} (hB : Bnd p bs C K) {c : FR} {cs : List FR} {now : FR} {done : Int} (h : WI p bs C K (c :: cs) now done) {f : FN} {b : BD} {x : IN} (hp : Plc p bs now.fn now.at' f b x) (h18 : x.op = 18) :
    WI p bs C K cs ⟨c.fn, c.at', c.high + (tkgv p f x).1, c.been⟩ (done + 1) := by
  obtain ⟨s1, ⟨i, i1, i2, i3, i4, i5⟩, s3, s4⟩ := h.su
  obtain ⟨g, bg, y, hy⟩ := place hB.hb i1
  refine ⟨⟨s1.in', s1.len, s1.been⟩, ?_, s4, fun hc => ?_, s3⟩
  · rw [hy.st] at i2 i3 i4 i5
    obtain ⟨_, _, _, m3⟩ := hy.nx _ i4
    simp only [Int.toNat_natCast] at m3
    show c.high + (tkgv p f x).1 = hsO bs c.fn c.at'
    rw [m3, i5]
    have e1 : (tkgv p f x).1 = f.r := by unfold tkgv; rw [if_neg (by omega), if_pos h18]
    have e2 : (stepAt p g i y).gv = f.r := by
      have y17 : y.op = 17 := i2
      have ya : y.a = (now.fn : Int) := i3
      have hlt : now.fn < p.fns.length := (List.getElem?_eq_some_iff.1 hp.ba.fn).1
      show (tkgv p g y).2 = f.r
      unfold tkgv
      rw [if_pos y17, if_pos (by omega), ya, Int.toNat_natCast, hp.ba.fn]
    unfold behindS
    rw [e1, e2]
  · have h1 := h.cost hc
    have h2 := (hB.c hc).1.one _ h.ok.in'.1 _ h.ok.in'.2
    have e : sumC C (c :: cs) = C c.fn c.at' + sumC C cs := rfl
    rw [e] at h1
    show done + 1 + C c.fn c.at' + sumC C cs ≤ _
    omega
/-- One goes on, but at an end. -/
theorem way_on {x : IN} {i : Int} (h1 : x.op ≠ 1) (h2 : x.op ≠ 2) (h3 : x.op ≠ 18) : 0 < (wayL x i).length := by
  unfold wayL
  rw [if_neg (by omega)]
  split
  · simp
  · split
    · split
      · simp
      · split <;> simp
    · simp
theorem Plc.nexts {p : PG} {bs : List BD} {q i : Nat} {f : FN} {b : BD} {x : IN} (h : Plc p bs q i f b x) : nextD p (q : Int) (i : Int) = wayL x i ∧ takesD p (q : Int) (i : Int) = tkgv p f x := by
  have hid := instr_at h.ba.fn h.cx
  refine ⟨next_way hid (h.ba.fo.str x (List.mem_of_getElem? h.cx)) h.li (fault_iff.1 h.ft).2, ?_⟩
  unfold takesD
  rw [hid]
end Go.Proofs.YtcaadgcfceommaaGreat

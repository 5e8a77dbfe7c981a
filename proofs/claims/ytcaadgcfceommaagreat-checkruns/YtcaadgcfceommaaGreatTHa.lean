import Derived.Test.YtcaadgcfceommaaGreatTKr
namespace Go.Proofs.YtcaadgcfceommaaGreat
open Go.RowKit
set_option linter.unusedVariables false
set_option linter.unusedSimpArgs false
set_option maxRecDepth 100000
inductive Rch (ss : List ST) : Nat → Prop
 | zero : Rch ss 0
 | step {i : Nat} {s : ST} {x : Int} (h : Rch ss i) (hs : ss[i]? = some s) (hx : x ∈ s.nx) : Rch ss x.toNat
structure Fit (ss : List ST) (n : Nat) (hs : List Int) : Prop where
 len : hs.length = n
 z : hs.getD 0 0 = 0
 lo : ∀ x ∈ hs, -1 ≤ x ∧ x ≤ 256
 ok : ∀ i s, i < n → ss[i]? = some s → hs.getD i 0 ≠ -1 → faultS s (hs.getD i 0) n = 0 ∧ ∀ x ∈ s.nx, 0 ≤ x ∧ x < n ∧ hs.getD x.toNat 0 = behindS s (hs.getD i 0)
 rc : ∀ i, i < n → hs.getD i 0 ≠ -1 → Rch ss i
structure Fin (ss : List ST) (n : Nat) (hs l : List Int) : Prop where
 z : hs.getD 0 0 = 0
 cl : ∀ i s, i < n → ss[i]? = some s → hs.getD i 0 ≠ -1 → (i : Int) ∈ l ∨ (faultS s (hs.getD i 0) n = 0 ∧ ∀ x ∈ s.nx, 0 ≤ x ∧ x < n ∧ hs.getD x.toNat 0 = behindS s (hs.getD i 0))
 rc : ∀ i, i < n → hs.getD i 0 ≠ -1 → Rch ss i
 orc : ∀ H, Fit ss n H → ∀ i, i < n → hs.getD i 0 ≠ -1 → hs.getD i 0 = H.getD i 0
theorem joinH_val (n : Nat) (b : Int) (hb : b ≠ -1) : ∀ (ms hs l hs' l' : List Int), hs.length = n → (∀ m ∈ ms, 0 ≤ m ∧ m < n) → joinH b ms hs l = some (hs', l') →
  (∀ m ∈ ms, hs'.getD m.toNat 0 = b) ∧ (∀ i, i < n → hs.getD i 0 ≠ -1 → hs'.getD i 0 = hs.getD i 0) ∧ (∀ i, i < n → hs.getD i 0 = -1 → hs'.getD i 0 ≠ -1 → hs'.getD i 0 = b ∧ (i : Int) ∈ ms)
 | [], hs, l, hs', l', _, hm, h => by
  simp only [joinH, Option.some.injEq, Prod.mk.injEq] at h
  obtain ⟨rfl, rfl⟩ := h
  exact ⟨fun m hm => by simp at hm, fun i _ _ => rfl, fun i _ h1 h2 => absurd h1 h2⟩
 | m :: ms, hs, l, hs', l', hl, hm, h => by
  obtain ⟨hm0, hm1⟩ := hm m (by simp)
  have hml : m.toNat < hs.length := by rw [hl]; omega
  rw [joinH] at h
  split at h
  ·rename_i h1
   obtain ⟨a1, a2, a3⟩ := joinH_val n b hb ms _ _ hs' l' (by rw [List.length_set]; exact hl) (fun x hx => hm x (by simp [hx])) h
   have hset : (hs.set m.toNat b).getD m.toNat 0 = b := getD_set_eq b hml
   refine ⟨fun x hx => ?_, fun i hi h2 => ?_, fun i hi h2 h3 => ?_⟩
   ·rcases List.mem_cons.1 hx with rfl | hx
    ·rw [a2 x.toNat (by omega) (by rw [hset]; exact hb), hset]
    ·exact a1 x hx
   ·have hne : m.toNat ≠ i := fun e => h2 (by rw [← e]; exact h1)
    rw [a2 i hi (by rw [getD_set_ne b hne]; exact h2), getD_set_ne b hne]
   ·by_cases hne : m.toNat = i
    ·have e : (i : Int) = m := by omega
     refine ⟨?_, by rw [e]; simp⟩
     rw [← hne, a2 m.toNat (by omega) (by rw [hset]; exact hb), hset]
    ·obtain ⟨c1, c2⟩ := a3 i hi (by rw [getD_set_ne b hne]; exact h2) h3
     exact ⟨c1, by simp [c2]⟩
  ·rename_i h1
   split at h
   ·rename_i h2
    obtain ⟨a1, a2, a3⟩ := joinH_val n b hb ms _ _ hs' l' hl (fun x hx => hm x (by simp [hx])) h
    refine ⟨fun x hx => ?_, a2, fun i hi h3 h4 => ?_⟩
    ·rcases List.mem_cons.1 hx with rfl | hx
     ·rw [a2 x.toNat (by omega) h1]
      exact h2
     ·exact a1 x hx
    ·obtain ⟨c1, c2⟩ := a3 i hi h3 h4
     exact ⟨c1, by simp [c2]⟩
   ·cases h
theorem Fin.next {ss : List ST} {n : Nat} {hs l : List Int} (hok : SsOk ss n) (h : Fin ss n hs l) (hl : hs.length = n) {at' : Nat} {s : ST} (ha : at' < n) (hs1 : ss[at']? = some s) (hne : hs.getD at' 0 ≠ -1) (hlo : 0 ≤ hs.getD at' 0) (hf : faultS s (hs.getD at' 0) n = 0) {hs' l' : List Int}
  (hv : (∀ m ∈ s.nx, hs'.getD m.toNat 0 = behindS s (hs.getD at' 0)) ∧ (∀ i, i < n → hs.getD i 0 ≠ -1 → hs'.getD i 0 = hs.getD i 0) ∧ (∀ i, i < n → hs.getD i 0 = -1 → hs'.getD i 0 ≠ -1 → hs'.getD i 0 = behindS s (hs.getD at' 0) ∧ (i : Int) ∈ s.nx))
  (hkeep : ∀ x ∈ l, x = (at' : Int) ∨ x ∈ l') (hnew : ∀ i, i < n → hs.getD i 0 = -1 → hs'.getD i 0 ≠ -1 → (i : Int) ∈ l') : Fin ss n hs' l' := by
 have hsm := List.mem_of_getElem? hs1
 obtain ⟨b1, b2, b3⟩ := fault_zero (hok.stb s hsm) (hok.cp s hsm) (fun m hm => (hok.nx s hsm).1 m hm) hf
 obtain ⟨v1, v2, v3⟩ := hv
 have hn := hok.pos.1
 refine ⟨?_, fun i s' hi hsi hne' => ?_, fun i hi hne' => ?_, fun H hH i hi hne' => ?_⟩
 ·rw [v2 0 (by omega) (by rw [h.z]; omega), h.z]
 ·by_cases hold : hs.getD i 0 = -1
  ·exact .inl (hnew i hi hold hne')
  ·rw [v2 i hi hold]
   have hcl : ∀ (t : ST), ss[i]? = some t → (faultS t (hs.getD i 0) n = 0 ∧ ∀ x ∈ t.nx, 0 ≤ x ∧ x < n ∧ hs.getD x.toNat 0 = behindS t (hs.getD i 0)) → (faultS t (hs.getD i 0) n = 0 ∧ ∀ x ∈ t.nx, 0 ≤ x ∧ x < n ∧ hs'.getD x.toNat 0 = behindS t (hs.getD i 0)) := fun t ht hc => by
    refine ⟨hc.1, fun x hx => ?_⟩
    obtain ⟨c1, c2, c3⟩ := hc.2 x hx
    have htm := List.mem_of_getElem? ht
    obtain ⟨d1, _, _⟩ := fault_zero (hok.stb t htm) (hok.cp t htm) (fun m hm => (hok.nx t htm).1 m hm) hc.1
    exact ⟨c1, c2, by rw [v2 x.toNat (by omega) (by rw [c3]; omega), c3]⟩
   rcases h.cl i s' hi hsi hold with hin | hcl'
   ·rcases hkeep _ hin with he | hin
    ·right
     have e : i = at' := by omega
     subst e
     rw [hs1] at hsi
     cases hsi
     exact ⟨hf, fun x hx => ⟨(b3 x hx).1, (b3 x hx).2, v1 x hx⟩⟩
    ·exact .inl hin
   ·exact .inr (hcl s' hsi hcl')
 ·by_cases hold : hs.getD i 0 = -1
  ·obtain ⟨_, c2⟩ := v3 i hi hold hne'
   have := Rch.step (h.rc at' ha hne) hs1 c2
   simpa using this
  ·exact h.rc i hi hold
 ·by_cases hold : hs.getD i 0 = -1
  ·obtain ⟨c1, c2⟩ := v3 i hi hold hne'
   have h9 := h.orc H hH at' ha hne
   have h8 := (hH.ok at' s ha hs1 (by rw [← h9]; exact hne)).2 i c2
   rw [c1, h9]
   have e : ((i : Int)).toNat = i := by omega
   rw [e] at h8
   exact h8.2.2.symm
  ·rw [v2 i hi hold]
   exact h.orc H hH i hi hold
theorem Fin.fit {ss : List ST} {n : Nat} {hs : List Int} (h : Fin ss n hs []) (hl : hs.length = n) (hr : ∀ x ∈ hs, -1 ≤ x ∧ x ≤ 256) : Fit ss n hs :=
 ⟨hl, h.z, hr, fun i s hi hs hne => (h.cl i s hi hs hne).elim (fun hc => by simp at hc) (fun hc => hc), h.rc⟩
theorem Fin.start (ss : List ST) (n : Nat) (hn : 1 ≤ n) : Fin ss n ((List.replicate n (-1)).set 0 0) [0] := by
 have h00 : ((List.replicate n (-1 : Int)).set 0 0).getD 0 0 = 0 := getD_set_eq 0 (by simp; omega)
 have hoth : ∀ i, i < n → ((List.replicate n (-1 : Int)).set 0 0).getD i 0 ≠ -1 → i = 0 := fun i hi hne => by
  by_cases e : i = 0
  ·exact e
  ·exfalso
   apply hne
   rw [getD_set_ne 0 (Ne.symm e)]
   simp [List.getD, List.getElem?_replicate, hi]
 refine ⟨h00, fun i s hi _ hne => ?_, fun i hi hne => ?_, fun H hH i hi hne => ?_⟩
 ·rw [hoth i hi hne]; simp
 ·rw [hoth i hi hne]; exact .zero
 ·rw [hoth i hi hne, h00, hH.z]
theorem runH_fit (ss : List ST) (n : Nat) (hok : SsOk ss n) : ∀ (f : Nat) (hs l hs' : List Int), IH n hs l → (∀ x ∈ hs, -1 ≤ x ∧ x ≤ 256) → Fin ss n hs l → hs.count (-1) + l.length < f → runH ss n f hs l = .ok hs' → Fit ss n hs'
 | 0, hs, l, hs', hI, hr, hF, hf, h => by omega
 | f + 1, hs, l, hs', hI, hr, hF, hf, h => by
  rw [runH] at h
  split at h
  ·rename_i hl
   cases h
   have : l = [] := List.length_eq_zero_iff.1 hl
   subst this
   exact hF.fit hI.len hr
  ·rename_i hl
   have hl0 : 0 < l.length := by omega
   obtain ⟨hpm, hps, hpl⟩ := popL_spec l hl0
   obtain ⟨e1, e2, e3, e4⟩ := hI.el _ hpm
   obtain ⟨hI2, hc2, hc3⟩ := hI.pop hl0
   have hlt : (popL l).1.toNat < ss.length := by rw [hok.len]; omega
   split at h
   ·rename_i hnone
    rw [List.getElem?_eq_getElem hlt] at hnone
    cases hnone
   ·rename_i s hsome
    have hsm := List.mem_of_getElem? hsome
    split at h
    ·cases h
    ·rename_i hft
     have hft0 : faultS s (hs.getD (popL l).1.toNat 0) n = 0 := by
      by_cases e : faultS s (hs.getD (popL l).1.toNat 0) n = 0
      ·exact e
      ·exact absurd e hft
     obtain ⟨b1, b2, b3⟩ := fault_zero (hok.stb s hsm) (hok.cp s hsm) (fun m hm => (hok.nx s hsm).1 m hm) hft0
     split at h
     ·cases h
     ·rename_i r hj
      obtain ⟨a1, a2, a3, a4, a5, a6, a7⟩ := joinH_ok ss n _ ⟨b1, b2⟩ s.nx hs (popL l).2 r.1 r.2 hI2 hr b3 hj
      have hv := joinH_val n _ (by omega) s.nx hs (popL l).2 r.1 r.2 hI.len b3 hj
      have hF2 : Fin ss n r.1 r.2 := hF.next hok hI.len (at' := (popL l).1.toNat) (by omega) hsome (by omega) e3 hft0 hv (fun x hx => by
       rcases popL_keep l hl0 x hx with he | hin
       ·left; omega
       ·exact .inr (a6 _ hin)) a7
      exact runH_fit ss n hok f r.1 r.2 hs' a1 a2 hF2 (by omega) h
theorem heights_fit (ss : List ST) (n : Nat) (hok : SsOk ss n) (hs : List Int) (h : heightsD ss n = .ok hs) : Fit ss n hs := by
 have hn := hok.pos.1
 have hI := IH.start n hn
 exact runH_fit ss n hok (n + 1) _ [0] hs hI (fun x hx => by
  rcases List.mem_or_eq_of_mem_set hx with hx | rfl
  ·rw [List.eq_of_mem_replicate hx]; omega
  ·omega) (Fin.start ss n hn) (by have := hI.cnt; omega) h
end Go.Proofs.YtcaadgcfceommaaGreat

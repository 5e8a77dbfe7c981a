import Derived.Test.YtcaadgcfceommaaGreatTKj
import Derived.Test.YtcaadgcfceommaaGreatTKr
namespace Go.Proofs.YtcaadgcfceommaaGreat
open Go.RowKit
set_option linter.unusedVariables false
set_option linter.unusedSimpArgs false
set_option maxRecDepth 100000
theorem swp_at {l : List Int} {i j : Nat} (hi : i < l.length) (hj : j < l.length) (k : Nat) : (swp l i j).getD k 0 = if k = j then l.getD i 0 else if k = i then l.getD j 0 else l.getD k 0 := by
 unfold swp
 simp only [List.getD, List.getElem?_set, List.length_set]
 by_cases h1 : j = k
 ·subst h1
  simp [hj]
 ·by_cases h2 : i = k
  ·subst h2
   simp [h1, Ne.symm h1, hi]
  ·simp [h1, h2, Ne.symm h1, Ne.symm h2]
theorem swp_perm {l : List Int} {i j : Nat} (hi : i < l.length) (hj : j < l.length) : (swp l i j).Perm l := by
 unfold swp
 have e1 : l.getD j 0 = l[j] := by simp [List.getD, hj]
 have e2 : l.getD i 0 = l[i] := by simp [List.getD, hi]
 rw [e1, e2]
 exact List.set_set_perm hi hj
def HeapB (l : List Int) (n : Nat) : Prop := ∀ j, 0 < j → j < n → l.getD ((j - 1) / 2) 0 ≤ l.getD j 0
theorem up_heap : ∀ (f : Nat) (l : List Int) (j n : Nat), n ≤ l.length → j < n → j < f → (∀ k, 0 < k → k < n → k ≠ j → l.getD ((k - 1) / 2) 0 ≤ l.getD k 0) → (∀ k, 0 < k → k < n → (k - 1) / 2 = j → 0 < j → l.getD ((j - 1) / 2) 0 ≤ l.getD k 0) → HeapB (upL f l j) n ∧ (upL f l j).Perm l
 | 0, l, j, n, _, _, hf, _, _ => by omega
 | f + 1, l, j, n, hn, hj, hf, h1, h2 => by
  rw [upL]
  split
  ·rename_i hc
   refine ⟨fun k hk0 hkn => ?_, .refl _⟩
   by_cases hkj : k = j
   ·subst hkj
    rcases hc with hc | hc
    ·omega
    ·omega
   ·exact h1 k hk0 hkn hkj
  ·rename_i hc
   have hj0 : 0 < j := by omega
   have hlt : l.getD j 0 < l.getD ((j - 1) / 2) 0 := by
    by_cases h9 : l.getD j 0 < l.getD ((j - 1) / 2) 0
    ·exact h9
    ·exact absurd (.inr h9) hc
   have hp : (j - 1) / 2 < l.length := by omega
   have hat := swp_at (l := l) hp (show j < l.length by omega)
   obtain ⟨r1, r2⟩ := up_heap f (swp l ((j - 1) / 2) j) ((j - 1) / 2) n (by rw [swp_len]; exact hn) (by omega) (by omega) (fun k hk0 hkn hkp => by
    rw [hat, hat]
    by_cases e1 : k = j
    ·subst e1
     rw [if_neg (by omega), if_pos rfl, if_pos rfl]
     omega
    ·rw [if_neg e1, if_neg hkp]
     by_cases e2 : (k - 1) / 2 = j
     ·rw [if_pos e2]
      exact h2 k hk0 hkn e2 hj0
     ·rw [if_neg e2]
      by_cases e3 : (k - 1) / 2 = (j - 1) / 2
      ·rw [if_pos e3]
       have := h1 k hk0 hkn e1
       rw [e3] at this
       omega
      ·rw [if_neg e3]
       exact h1 k hk0 hkn e1) (fun k hk0 hkn hkp hp0 => by
    have h9 := h1 ((j - 1) / 2) hp0 (by omega) (by omega)
    rw [hat, hat, if_neg (show ((j - 1) / 2 - 1) / 2 ≠ j by omega), if_neg (show ((j - 1) / 2 - 1) / 2 ≠ (j - 1) / 2 by omega)]
    by_cases e1 : k = j
    ·rw [if_pos e1]
     exact h9
    ·rw [if_neg e1, if_neg (by omega)]
     have := h1 k hk0 hkn e1
     rw [hkp] at this
     omega)
   exact ⟨r1, r2.trans (swp_perm hp (by omega))⟩
theorem down_heap : ∀ (f : Nat) (l : List Int) (i n : Nat), n ≤ l.length → i < l.length → n < f + i + 1 → (∀ k, 0 < k → k < n → (k - 1) / 2 ≠ i → l.getD ((k - 1) / 2) 0 ≤ l.getD k 0) → (∀ k, 0 < k → k < n → (k - 1) / 2 = i → 0 < i → l.getD ((i - 1) / 2) 0 ≤ l.getD k 0) → HeapB (downL f l i n) n ∧ (downL f l i n).Perm l ∧ ∀ k, n ≤ k → k ≠ i → (downL f l i n).getD k 0 = l.getD k 0
 | 0, l, i, n, _, _, hf, h1, h2 => ⟨fun k hk0 hkn => h1 k hk0 hkn (by omega), .refl _, fun _ _ _ => rfl⟩
 | f + 1, l, i, n, hn, hi, hf, h1, h2 => by
  rw [downL]
  split
  ·rename_i hc
   exact ⟨fun k hk0 hkn => h1 k hk0 hkn (by omega), .refl _, fun _ _ _ => rfl⟩
  ·rename_i hc
   obtain ⟨c, hcd⟩ := nmd (lesser l (2 * i + 1) n)
   rw [← hcd]
   have hcn : c < n ∧ (c = 2 * i + 1 ∨ c = 2 * i + 2) ∧ ∀ k, 0 < k → k < n → (k - 1) / 2 = i → l.getD c 0 ≤ l.getD k 0 := by
    unfold lesser at hcd
    split at hcd
    ·rename_i hb
     subst hcd
     refine ⟨hb.1, .inr rfl, fun k hk0 hkn hkp => ?_⟩
     have : k = 2 * i + 1 ∨ k = 2 * i + 1 + 1 := by omega
     rcases this with rfl | rfl
     ·omega
     ·exact Int.le_refl _
    ·rename_i hb
     subst hcd
     refine ⟨by omega, .inl rfl, fun k hk0 hkn hkp => ?_⟩
     have : k = 2 * i + 1 ∨ k = 2 * i + 1 + 1 := by omega
     rcases this with rfl | rfl
     ·exact Int.le_refl _
     ·by_cases h9 : l.getD (2 * i + 1 + 1) 0 < l.getD (2 * i + 1) 0
      ·exact absurd ⟨by omega, h9⟩ hb
      ·omega
   obtain ⟨hc1, hc2, hc3⟩ := hcn
   split
   ·rename_i hb
    refine ⟨fun k hk0 hkn => ?_, .refl _, fun _ _ _ => rfl⟩
    by_cases e : (k - 1) / 2 = i
    ·have := hc3 k hk0 hkn e
     rw [e]
     omega
    ·exact h1 k hk0 hkn e
   ·rename_i hb
    have hat := swp_at (l := l) hi (show c < l.length by omega)
    obtain ⟨r1, r2, r3⟩ := down_heap f (swp l i c) c n (by rw [swp_len]; exact hn) (by rw [swp_len]; omega) (by omega) (fun k hk0 hkn hkp => by
     rw [hat, hat, if_neg hkp]
     by_cases e1 : k = c
     ·rw [if_pos e1, if_pos (by omega)]
      omega
     ·rw [if_neg e1]
      by_cases e2 : (k - 1) / 2 = i
      ·rw [if_pos e2, if_neg (by omega)]
       exact hc3 k hk0 hkn e2
      ·rw [if_neg e2]
       by_cases e3 : k = i
       ·subst e3
        rw [if_pos rfl]
        exact h2 c (by omega) hc1 (by omega) hk0
       ·rw [if_neg e3]
        exact h1 k hk0 hkn e2) (fun k hk0 hkn hkp hc0 => by
     rw [hat, hat, if_neg (show (c - 1) / 2 ≠ c by omega), if_pos (show (c - 1) / 2 = i by omega), if_neg (show k ≠ c by omega), if_neg (show k ≠ i by omega)]
     have := h1 k hk0 hkn (by omega)
     rw [hkp] at this
     exact this)
    refine ⟨r1, r2.trans (swp_perm hi (by omega)), fun k hk hki => ?_⟩
    rw [r3 k hk (by omega), hat, if_neg (by omega), if_neg hki]
theorem heap_root {l : List Int} {n : Nat} (h : HeapB l n) : ∀ (k : Nat), k < n → l.getD 0 0 ≤ l.getD k 0 := by
 intro k
 induction k using Nat.strongRecOn with
 | ind k ih =>
  intro hk
  by_cases h0 : k = 0
  ·subst h0; exact Int.le_refl _
  ·have h1 := h k (by omega) hk
   have h2 := ih ((k - 1) / 2) (by omega) (by omega)
   omega
def IsHeap (l : List Int) : Prop := HeapB l l.length
theorem heap_least {l : List Int} (h : IsHeap l) {x : Int} (hx : x ∈ l) : l.getD 0 0 ≤ x := by
 obtain ⟨i, hi, e⟩ := List.mem_iff_getElem.1 hx
 have := heap_root h i hi
 have e2 : l.getD i 0 = l[i] := by simp [List.getD, hi]
 rw [e2, e] at this
 exact this
theorem pop_least {l : List Int} (h : IsHeap l) (h0 : 0 < l.length) : IsHeap (popL l).2 ∧ l.Perm ((popL l).1 :: (popL l).2) ∧ ∀ x ∈ l, (popL l).1 ≤ x := by
 obtain ⟨n, hn⟩ : ∃ n, l.length = n + 1 := ⟨l.length - 1, by omega⟩
 have hat := swp_at (l := l) h0 (show n < l.length by omega)
 obtain ⟨r1, r2, r3⟩ := down_heap (n + 1) (swp l 0 n) 0 n (by rw [swp_len]; omega) (by rw [swp_len]; omega) (by omega) (fun k hk0 hkn hkp => by
  rw [hat, hat, if_neg (by omega), if_neg hkp, if_neg (by omega), if_neg (by omega)]
  exact h k hk0 (by omega)) (fun k hk0 hkn hkp hc => by omega)
 have e1 : popL l = ((downL (n + 1) (swp l 0 n) 0 n).getD n 0, (downL (n + 1) (swp l 0 n) 0 n).take n) := by
  unfold popL
  rw [hn]
  rfl
 have hl : (downL (n + 1) (swp l 0 n) 0 n).length = n + 1 := by rw [downL_len, swp_len, hn]
 generalize downL (n + 1) (swp l 0 n) 0 n = d at *
 have hlast : d.getD n 0 = l.getD 0 0 := by
  by_cases hz : n = 0
  ·subst hz
   have hp := r2.trans (swp_perm h0 (show 0 < l.length by omega))
   obtain ⟨a, rfl⟩ := List.length_eq_one_iff.1 hl
   obtain ⟨b, rfl⟩ := List.length_eq_one_iff.1 hn
   have := hp.mem_iff (a := a)
   simp at this
   simp [this]
  ·rw [r3 n (Nat.le_refl _) hz, hat, if_pos rfl]
 have hsp : d = d.take n ++ [d.getD n 0] := by
  have e9 := List.take_append_drop n d
  have e8 : d.drop n = [d.getD n 0] := by
   apply List.ext_getElem?
   intro i
   rw [List.getElem?_drop]
   cases i with
   | zero => simp [List.getD, hl]
   | succ i => rw [List.getElem?_eq_none (by omega)]; simp
  rw [e8] at e9
  exact e9.symm
 rw [e1]
 refine ⟨fun k hk0 hkn => ?_, ?_, fun x hx => ?_⟩
 ·have hkn' : k < n := by
   have : (d.take n).length = n := by rw [List.length_take]; omega
   show k < n
   have h9 : k < (d.take n).length := hkn
   omega
  have ht : ∀ i, i < n → (d.take n).getD i 0 = d.getD i 0 := fun i hi => by simp [List.getD, List.getElem?_take, hi]
  show (d.take n).getD ((k - 1) / 2) 0 ≤ (d.take n).getD k 0
  rw [ht _ (by omega), ht _ hkn']
  exact r1 k hk0 hkn'
 ·have hp := (r2.trans (swp_perm h0 (show n < l.length by omega))).symm
  rw [hsp] at hp
  exact hp.trans List.perm_append_comm
 ·show d.getD n 0 ≤ x
  rw [hlast]
  exact heap_least h hx
theorem push_heap {l : List Int} (h : IsHeap l) (m : Int) : IsHeap (upL (l.length + 1) (l ++ [m]) l.length) ∧ (upL (l.length + 1) (l ++ [m]) l.length).Perm (m :: l) := by
 have ht : ∀ i, i < l.length → (l ++ [m]).getD i 0 = l.getD i 0 := fun i hi => by simp [List.getD, List.getElem?_append_left hi]
 obtain ⟨r1, r2⟩ := up_heap (l.length + 1) (l ++ [m]) l.length (l.length + 1) (by simp) (by omega) (by omega) (fun k hk0 hkn hkj => by
  rw [ht _ (by omega), ht _ (by omega)]
  exact h k hk0 (by omega)) (fun k hk0 hkn hkp hj => by omega)
 refine ⟨?_, r2.trans List.perm_append_comm⟩
 unfold IsHeap
 rw [upL_len]
 simpa using r1
def Rw (n : Nat) (ws : List Bool) (l : List Int) : Prop := ws.length = n ∧ (∀ m ∈ l, 0 ≤ m ∧ m < n) ∧ ∀ i : Nat, i < n → (ws.getD i false = true ↔ (i : Int) ∈ l)
def setHW (b : Int) : List Int → List Int → List Bool → List Int × List Bool
 | [], hs, ws => (hs, ws)
 | m :: ms, hs, ws => if hs.getD m.toNat 0 = -1 then setHW b ms (hs.set m.toNat b) (ws.set m.toNat true) else setHW b ms hs ws
def clash (b : Int) (ms hs : List Int) : Prop := ∃ m ∈ ms, hs.getD m.toNat 0 ≠ -1 ∧ hs.getD m.toNat 0 ≠ b
theorem set_getD {l : List Int} {i j : Nat} (hi : i < l.length) (b : Int) : (l.set i b).getD j 0 = if i = j then b else l.getD j 0 := by
 simp only [List.getD, List.getElem?_set]
 by_cases h : i = j
 ·subst h; simp [hi]
 ·simp [h]
theorem setb_getD {l : List Bool} {i j : Nat} (hi : i < l.length) (b : Bool) : (l.set i b).getD j false = if i = j then b else l.getD j false := by
 simp only [List.getD, List.getElem?_set]
 by_cases h : i = j
 ·subst h; simp [hi]
 ·simp [h]
structure JW (n : Nat) (hs l : List Int) (ws : List Bool) : Prop where
 len : hs.length = n
 hp : IsHeap l
 nd : l.Nodup
 rw' : Rw n ws l
 ht : ∀ m ∈ l, hs.getD m.toNat 0 ≠ -1
theorem join_rel (n : Nat) (b : Int) (hb : b ≠ -1) : ∀ (ms hs l : List Int) (ws : List Bool), (∀ m ∈ ms, 0 ≤ m ∧ m < n) → JW n hs l ws →
  (∀ r, joinH b ms hs l = some r → ¬ clash b ms hs ∧ r.1 = (setHW b ms hs ws).1 ∧ JW n r.1 r.2 (setHW b ms hs ws).2) ∧ (joinH b ms hs l = none → clash b ms hs)
 | [], hs, l, ws, _, h => ⟨fun r hr => (by cases hr; exact ⟨fun ⟨m, hm, _⟩ => (by cases hm), rfl, h⟩), fun hr => (by cases hr)⟩
 | m :: ms, hs, l, ws, hms, h => by
  obtain ⟨hm0, hmn⟩ := hms m (by simp)
  have hmt : m.toNat < hs.length := by rw [h.len]; omega
  have hms' : ∀ x ∈ ms, 0 ≤ x ∧ x < n := fun x hx => hms x (by simp [hx])
  by_cases h1 : hs.getD m.toNat 0 = -1
  ·have hnl : m ∉ l := fun e => h.ht m e h1
   have hws : m.toNat < ws.length := by rw [h.rw'.1]; omega
   obtain ⟨p1, p2⟩ := push_heap h.hp m
   have hj : JW n (hs.set m.toNat b) (upL (l.length + 1) (l ++ [m]) l.length) (ws.set m.toNat true) := by
    refine ⟨by rw [List.length_set]; exact h.len, p1, (p2.nodup_iff).2 (List.nodup_cons.2 ⟨hnl, h.nd⟩), ⟨by rw [List.length_set]; exact h.rw'.1, fun x hx => ?_, fun i hi => ?_⟩, fun x hx => ?_⟩
    ·rcases List.mem_cons.1 ((p2.mem_iff).1 hx) with rfl | hx
     ·exact ⟨hm0, hmn⟩
     ·exact h.rw'.2.1 x hx
    ·rw [setb_getD hws, p2.mem_iff, List.mem_cons]
     by_cases e : m.toNat = i
     ·rw [if_pos e]
      exact ⟨fun _ => .inl (by omega), fun _ => rfl⟩
     ·rw [if_neg e, h.rw'.2.2 i hi]
      exact ⟨.inr, fun h => h.resolve_left (by omega)⟩
    ·rw [set_getD hmt]
     split
     ·exact hb
     ·rename_i e
      rcases List.mem_cons.1 ((p2.mem_iff).1 hx) with rfl | hx
      ·exact absurd rfl e
      ·exact h.ht x hx
   obtain ⟨r1, r2⟩ := join_rel n b hb ms _ _ _ hms' hj
   have ej : joinH b (m :: ms) hs l = joinH b ms (hs.set m.toNat b) (upL (l.length + 1) (l ++ [m]) l.length) := by rw [joinH, if_pos h1]
   have es : setHW b (m :: ms) hs ws = setHW b ms (hs.set m.toNat b) (ws.set m.toNat true) := by rw [setHW, if_pos h1]
   have ec : clash b (m :: ms) hs ↔ clash b ms (hs.set m.toNat b) := by
    constructor
    ·rintro ⟨x, hx, c1, c2⟩
     rcases List.mem_cons.1 hx with rfl | hx
     ·exact absurd h1 c1
     ·by_cases e : m.toNat = x.toNat
      ·rw [← e] at c1; exact absurd h1 c1
      ·exact ⟨x, hx, by rw [set_getD hmt, if_neg e]; exact c1, by rw [set_getD hmt, if_neg e]; exact c2⟩
    ·rintro ⟨x, hx, c1, c2⟩
     rw [set_getD hmt] at c1 c2
     by_cases e : m.toNat = x.toNat
     ·rw [if_pos e] at c2; exact absurd rfl c2
     ·rw [if_neg e] at c1 c2
      exact ⟨x, by simp [hx], c1, c2⟩
   rw [ej, es, ec]
   exact ⟨r1, r2⟩
  ·have es : setHW b (m :: ms) hs ws = setHW b ms hs ws := by rw [setHW, if_neg h1]
   by_cases h2 : hs.getD m.toNat 0 = b
   ·obtain ⟨r1, r2⟩ := join_rel n b hb ms _ _ _ hms' h
    have ej : joinH b (m :: ms) hs l = joinH b ms hs l := by rw [joinH, if_neg h1, if_pos h2]
    have ec : clash b (m :: ms) hs ↔ clash b ms hs := by
     constructor
     ·rintro ⟨x, hx, c1, c2⟩
      rcases List.mem_cons.1 hx with rfl | hx
      ·exact absurd h2 c2
      ·exact ⟨x, hx, c1, c2⟩
     ·rintro ⟨x, hx, c1, c2⟩
      exact ⟨x, by simp [hx], c1, c2⟩
    rw [ej, es, ec]
    exact ⟨r1, r2⟩
   ·have ej : joinH b (m :: ms) hs l = none := by rw [joinH, if_neg h1, if_neg h2]
    rw [ej]
    exact ⟨fun r hr => (by cases hr), fun _ => ⟨m, by simp, h1, h2⟩⟩
theorem pop_rel {n : Nat} {hs l : List Int} {ws : List Bool} (h : JW n hs l ws) {i : Nat} (hi : i < n) (ht : ws.getD i false = true) (hlo : ∀ j, j < i → ws.getD j false = false) : 0 < l.length ∧ (popL l).1 = (i : Int) ∧ JW n hs (popL l).2 (ws.set i false) := by
 have him : (i : Int) ∈ l := (h.rw'.2.2 i hi).1 ht
 have h0 : 0 < l.length := List.length_pos_of_mem him
 obtain ⟨p1, p2, p3⟩ := pop_least h.hp h0
 have hm : (popL l).1 ∈ l := (p2.mem_iff).2 (by simp)
 have hr := h.rw'.2.1 _ hm
 have hle := p3 _ him
 have he : (popL l).1 = (i : Int) := by
  by_cases e : (popL l).1 = (i : Int)
  ·exact e
  ·exfalso
   have h1 := hlo (popL l).1.toNat (by omega)
   have h2 := (h.rw'.2.2 (popL l).1.toNat (by omega)).2 (by rw [Int.toNat_of_nonneg hr.1]; exact hm)
   rw [h1] at h2
   cases h2
 have hnd := (p2.nodup_iff).1 h.nd
 rw [he] at hnd p2
 obtain ⟨n1, n2⟩ := List.nodup_cons.1 hnd
 refine ⟨h0, he, h.len, p1, n2, ⟨by rw [List.length_set]; exact h.rw'.1, fun m hm => h.rw'.2.1 m ((p2.mem_iff).2 (by simp [hm])), fun j hj => ?_⟩, fun m hm => h.ht m ((p2.mem_iff).2 (by simp [hm]))⟩
 rw [setb_getD (by rw [h.rw'.1]; exact hi)]
 by_cases e : i = j
 ·subst e
  rw [if_pos rfl]
  exact ⟨fun h => (by cases h), fun h => absurd h n1⟩
 ·rw [if_neg e, h.rw'.2.2 j hj, p2.mem_iff, List.mem_cons]
  exact ⟨fun h => h.resolve_left (by omega), .inr⟩
theorem none_rel {n : Nat} {hs l : List Int} {ws : List Bool} (h : JW n hs l ws) (hlo : ∀ j, j < n → ws.getD j false = false) : l.length = 0 := by
 cases l with
 | nil => rfl
 | cons m l =>
  exfalso
  have hr := h.rw'.2.1 m (by simp)
  have h1 := hlo m.toNat (by omega)
  have h2 := (h.rw'.2.2 m.toNat (by omega)).2 (by rw [Int.toNat_of_nonneg hr.1]; simp)
  rw [h1] at h2
  cases h2
theorem start_rel (n : Nat) (hn : 1 ≤ n) : JW n ((List.replicate n (-1)).set 0 0) [0] ((List.replicate n false).set 0 true) := by
 refine ⟨by simp, fun j h0 hj => by simp at hj; omega, by simp, ⟨by simp, fun m hm => by simp at hm; omega, fun i hi => ?_⟩, fun m hm => ?_⟩
 ·rw [setb_getD (by simp; omega)]
  by_cases e : 0 = i
  ·subst e; simp
  ·rw [if_neg e]
   have e1 : (List.replicate n false).getD i false = false := by simp [List.getD, hi]
   rw [e1]
   simp
   omega
 ·simp at hm
  subst hm
  rw [set_getD (by simp; omega)]
  simp
end Go.Proofs.YtcaadgcfceommaaGreat

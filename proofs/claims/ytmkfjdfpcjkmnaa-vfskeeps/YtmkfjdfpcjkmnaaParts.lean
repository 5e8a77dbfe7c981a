/-
  A text's parts; the order of texts is the order of their parts; to lie under is to begin with the parts.
-/
import Derived.Test.YtmkfjdfpcjkmnaaStrs
namespace Go.Proofs.Ytmkfjdfpcjkmnaa
open Go.RowKit
set_option linter.unusedVariables false
set_option linter.unusedSimpArgs false

/-- A text, parted at each /. -/
def splitB : List UInt8 → List (List UInt8)
  | [] => [[]]
  | c :: l => if c = 47 then [] :: splitB l else match splitB l with | p :: ps => (c :: p) :: ps | [] => [[c]]
def partsOf (l : List UInt8) : List (List UInt8) := if l = [] then [] else splitB l

theorem splitB_some : ∀ l, ∃ p ps, splitB l = p :: ps
  | [] => ⟨[], [], rfl⟩
  | c :: l => by
    rw [splitB]
    split
    · exact ⟨_, _, rfl⟩
    · split
      · exact ⟨_, _, rfl⟩
      · exact ⟨_, _, rfl⟩

theorem splitB_cons (c : UInt8) (l : List UInt8) : (c = 47 → splitB (c :: l) = [] :: splitB l) ∧ (c ≠ 47 → ∀ p ps, splitB l = p :: ps → splitB (c :: l) = (c :: p) :: ps) := by
  constructor
  · intro h
    rw [splitB, if_pos h]
  · intro h p ps e
    rw [splitB, if_neg h, e]

/-- Parts in order. -/
def ltParts : List (List UInt8) → List (List UInt8) → Bool
  | [], [] => false
  | [], _ :: _ => true
  | _ :: _, [] => false
  | p :: ps, q :: qs => if p = q then ltParts ps qs else Op.bytesLess p q

theorem rank_lt {x y : UInt8} (hx : x ≠ 47) (hy : y ≠ 47) : decide (rankOf x.toNat < rankOf y.toNat) = decide (x < y) := by
  have h1 : ¬ ((x.toNat : Int) = 47) := fun e => hx (UInt8.toNat_inj.1 (by show x.toNat = 47; omega))
  have h2 : ¬ ((y.toNat : Int) = 47) := fun e => hy (UInt8.toNat_inj.1 (by show y.toNat = 47; omega))
  rw [rankOf, rankOf, if_neg h1, if_neg h2, decide_eq_decide, UInt8.lt_iff_toNat_lt]
  omega

theorem ltP_split : ∀ a b : List UInt8, ltP a b = ltParts (splitB a) (splitB b)
  | [], [] => rfl
  | [], y :: m => by
    obtain ⟨q, qs, e⟩ := splitB_some m
    by_cases hy : y = 47
    · rw [(splitB_cons y m).1 hy, e]
      simp [ltP, splitB, ltParts]
    · rw [(splitB_cons y m).2 hy _ _ e]
      simp [ltP, splitB, ltParts, Op.bytesLess]
  | x :: l, [] => by
    obtain ⟨p, ps, e⟩ := splitB_some l
    by_cases hx : x = 47
    · rw [(splitB_cons x l).1 hx, e]
      simp [ltP, splitB, ltParts]
    · rw [(splitB_cons x l).2 hx _ _ e]
      simp [ltP, splitB, ltParts, Op.bytesLess]
  | x :: l, y :: m => by
    have ih := ltP_split l m
    obtain ⟨p, ps, e⟩ := splitB_some l
    obtain ⟨q, qs, f⟩ := splitB_some m
    rw [ltP]
    by_cases hx : x = 47
    · by_cases hy : y = 47
      · rw [(splitB_cons x l).1 hx, (splitB_cons y m).1 hy, if_pos (hx.trans hy.symm), ih]
        simp [ltParts]
      · rw [(splitB_cons x l).1 hx, (splitB_cons y m).2 hy _ _ f, if_neg (fun h => hy (h.symm.trans hx)), hx]
        have h2 : ¬ ((y.toNat : Int) = 47) := fun e => hy (UInt8.toNat_inj.1 (by show y.toNat = 47; omega))
        have h3 : rankOf ((47 : UInt8).toNat : Int) < rankOf (y.toNat : Int) := by
          rw [rankOf, rankOf, if_neg h2]
          show (-1 : Int) < _
          omega
        rw [decide_eq_true h3]
        simp [ltParts, Op.bytesLess]
    · by_cases hy : y = 47
      · rw [(splitB_cons x l).2 hx _ _ e, (splitB_cons y m).1 hy, if_neg (fun h => hx (h.trans hy)), hy]
        have h2 : ¬ ((x.toNat : Int) = 47) := fun e => hx (UInt8.toNat_inj.1 (by show x.toNat = 47; omega))
        have h3 : ¬ (rankOf (x.toNat : Int) < rankOf ((47 : UInt8).toNat : Int)) := by
          rw [rankOf, rankOf, if_neg h2]
          show ¬ (_ < (-1 : Int))
          omega
        rw [decide_eq_false h3]
        simp [ltParts, Op.bytesLess]
      · rw [(splitB_cons x l).2 hx _ _ e, (splitB_cons y m).2 hy _ _ f]
        by_cases hxy : x = y
        · subst hxy
          rw [if_pos rfl, ih, e, f]
          simp [ltParts, Op.bytesLess]
        · rw [if_neg hxy, rank_lt hx hy]
          simp [ltParts, Op.bytesLess, hxy]

theorem ltP_parts (a b : List UInt8) : ltP a b = ltParts (partsOf a) (partsOf b) := by
  rw [partsOf, partsOf]
  by_cases ha : a = []
  · by_cases hb : b = []
    · subst ha; subst hb; rfl
    · rw [if_pos ha, if_neg hb, ha]
      obtain ⟨q, qs, f⟩ := splitB_some b
      rw [f]
      cases b with
      | nil => exact absurd rfl hb
      | cons y m => rfl
  · by_cases hb : b = []
    · rw [if_neg ha, if_pos hb, hb]
      obtain ⟨p, ps, e⟩ := splitB_some a
      rw [e]
      cases a with
      | nil => exact absurd rfl ha
      | cons y m => rfl
    · rw [if_neg ha, if_neg hb, ltP_split]

/-- Whether b begins with a, and a / or nothing stands behind it. -/
def underL : List UInt8 → List UInt8 → Bool
  | [], [] => true
  | [], y :: _ => decide (y = 47)
  | _ :: _, [] => false
  | x :: l, y :: m => decide (x = y) && underL l m

theorem under_split : ∀ a b : List UInt8, underL a b = (splitB a).isPrefixOf (splitB b)
  | [], [] => rfl
  | [], y :: m => by
    obtain ⟨q, qs, e⟩ := splitB_some m
    by_cases hy : y = 47
    · rw [(splitB_cons y m).1 hy, e]
      simp [List.isPrefixOf, underL, splitB, hy]
    · rw [(splitB_cons y m).2 hy _ _ e]
      simp [List.isPrefixOf, underL, splitB, hy]
  | x :: l, [] => by
    obtain ⟨p, ps, e⟩ := splitB_some l
    by_cases hx : x = 47
    · rw [(splitB_cons x l).1 hx, e]
      simp [List.isPrefixOf, underL, splitB]
    · rw [(splitB_cons x l).2 hx _ _ e]
      simp [List.isPrefixOf, underL, splitB]
  | x :: l, y :: m => by
    have ih := under_split l m
    obtain ⟨p, ps, e⟩ := splitB_some l
    obtain ⟨q, qs, f⟩ := splitB_some m
    rw [underL]
    by_cases hx : x = 47
    · by_cases hy : y = 47
      · rw [(splitB_cons x l).1 hx, (splitB_cons y m).1 hy, ih, hx, hy]
        simp [List.isPrefixOf]
      · rw [(splitB_cons x l).1 hx, (splitB_cons y m).2 hy _ _ f, decide_eq_false (fun h => hy (h.symm.trans hx))]
        simp [List.isPrefixOf]
    · by_cases hy : y = 47
      · rw [(splitB_cons x l).2 hx _ _ e, (splitB_cons y m).1 hy, decide_eq_false (fun h => hx (h.trans hy))]
        simp [List.isPrefixOf]
      · rw [(splitB_cons x l).2 hx _ _ e, (splitB_cons y m).2 hy _ _ f, ih, e, f]
        by_cases hxy : x = y
        · subst hxy
          simp [List.isPrefixOf]
        · simp [List.isPrefixOf, hxy]

theorem underL_iff (a b : List UInt8) : underL a b = true ↔ ∃ r, b = a ++ r ∧ (r = [] ∨ r.head? = some 47) := by
  induction a generalizing b with
  | nil =>
    cases b with
    | nil => simp [underL]
    | cons y m => simp [underL]
  | cons x l ih =>
    cases b with
    | nil => simp [underL]
    | cons y m =>
      rw [underL, Bool.and_eq_true, decide_eq_true_eq, ih]
      constructor
      · rintro ⟨rfl, r, rfl, h⟩
        exact ⟨r, rfl, h⟩
      · rintro ⟨r, e, h⟩
        rw [List.cons_append, List.cons.injEq] at e
        exact ⟨e.1.symm, r, e.2, h⟩

theorem underB_iff (a b : ByteArray) : underB a b = true ↔ (a.data.toList = [] ∨ underL a.data.toList b.data.toList = true) := by
  rw [underB, underL_iff, Bool.and_eq_true, front_iff]
  have hc : front b a = true → (cutOff b a).data.toList = b.data.toList.drop a.size := fun h => by
    rw [cutOff, if_pos h, extract_list, List.take_of_length_le (by simp)]
  constructor
  · rintro ⟨⟨r, hr⟩, h⟩
    have hf : front b a = true := (front_iff b a).2 ⟨r, hr⟩
    have hd : b.data.toList.drop a.size = r := by rw [← hr, List.drop_left' (by simp)]
    rw [ByteArray.toList_eq, ByteArray.toList_eq, hc hf, hd] at h
    simp only [Bool.or_eq_true, beq_iff_eq] at h
    rcases h with (h | h) | h
    · exact .inl h
    · exact .inr ⟨r, hr.symm, .inl h⟩
    · exact .inr ⟨r, hr.symm, .inr h⟩
  · intro h
    rcases h with h | ⟨r, hr, h⟩
    · refine ⟨⟨b.data.toList, by rw [h]; rfl⟩, ?_⟩
      rw [ByteArray.toList_eq a, h]
      rfl
    · have hf : front b a = true := (front_iff b a).2 ⟨r, hr.symm⟩
      have hd : b.data.toList.drop a.size = r := by rw [hr, List.drop_left' (by simp)]
      refine ⟨⟨r, hr.symm⟩, ?_⟩
      rw [ByteArray.toList_eq, ByteArray.toList_eq, hc hf, hd]
      rcases h with h | h
      · simp [h]
      · simp [h]

/-- path.Under is: to begin with the parts. -/
theorem under_parts (a b : ByteArray) : underB a b = (partsOf a.data.toList).isPrefixOf (partsOf b.data.toList) := by
  rw [Bool.eq_iff_iff, underB_iff, partsOf, partsOf]
  by_cases ha : a.data.toList = []
  · rw [if_pos ha]
    simp [ha]
  · rw [if_neg ha]
    by_cases hb : b.data.toList = []
    · rw [if_pos hb, hb]
      obtain ⟨p, ps, e⟩ := splitB_some a.data.toList
      rw [e]
      cases h : a.data.toList with
      | nil => exact absurd h ha
      | cons x l => simp [underL]
    · rw [if_neg hb, under_split]
      simp [ha]
end Go.Proofs.Ytmkfjdfpcjkmnaa

import Derived.Test.YtpfmhibdmehlcaaGreatDoorTOx15
import Derived.Test.YtpfmhibdmehlcaaGreatDoorTOx10
import Derived.Test.YtpfmhibdmehlcaaGreatDoorTOx31
import Derived.Test.YtpfmhibdmehlcaaGreatDoorTOx29
import Derived.Test.YtpfmhibdmehlcaaGreatDoorTOx21
import Derived.Test.YtpfmhibdmehlcaaGreatDoorTOx30
namespace Go.Proofs.YtpfmhibdmehlcaaGreatDoor
open Go.RowKit
set_option linter.unusedVariables false
set_option linter.unusedSimpArgs false
set_option maxRecDepth 100000
def finL (l : List UInt8) (x : CS) : Option (List Pf) := match cutF l x with | none => none | some z => if endB z = true then some (endS z).ps else none
theorem cutV_finL (l : List UInt8) : cutV l = finL l ⟨[], 0, [], 0⟩ := rfl
def atR (ps : List Pf) (st : Int) (hi : Int) : CS := ⟨ps, st, [], hi⟩
theorem fin_step {b : UInt8} {l : List UInt8} {x y : CS} (h59 : b.toNat ≠ 59 ∨ 4 ≤ x.st) (h : takeP x b.toNat = some y) : finL (b :: l) x = finL l y := by
 unfold finL
 rw [cutF, if_neg (by omega), h]
theorem fin_semi {b : UInt8} {l : List UInt8} {x : CS} (h59 : b.toNat = 59) (hx : x.st < 4) : finL (b :: l) x = finL [] x := by
 have e1 : cutF (b :: l) x = some x := by rw [cutF, if_pos ⟨h59, hx⟩]
 have e2 : cutF [] x = some x := by rw [cutF]
 unfold finL
 rw [e1, e2]
theorem fin_nil (ps : List Pf) {st : Int} (hi : Int) (h : st = 0 ∨ st = 1) : finL [] (atR ps st hi) = some ps := by
 rcases h with rfl | rfl <;> rfl
theorem fin_end {y : CS} (h2 : y.st = 2 ∨ y.st = 3) (hb : endB y = true) : ∀ {l : List UInt8}, (∀ b r, l = b :: r → goP b.toNat = false) → finL l y = finL l (endS y) := by
 have e1 : (endS y).st = 1 := by
  unfold endS
  rcases h2 with h | h
  ·rw [if_pos h]
  ·rw [if_neg (by omega), if_pos h]
 have e2 : endS (endS y) = endS y := by
  have e : ∀ z : CS, z.st = 1 → endS z = z := fun z hz => by unfold endS; rw [if_neg (by omega), if_neg (by omega)]
  exact e _ e1
 have e3 : endB (endS y) = true := by
  have e : ∀ z : CS, z.st = 1 → endB z = true := fun z hz => by unfold endB; rw [if_neg (by omega), if_neg (by omega), hz]; rfl
  exact e _ e1
 intro l hl
 cases l with
 | nil =>
  unfold finL
  rw [cutF, cutF]
  simp only
  rw [if_pos hb, if_pos e3, e2]
 | cons b r =>
  have hg := hl b r rfl
  by_cases h59 : b.toNat = 59
  ·rw [fin_semi h59 (by omega), fin_semi h59 (by omega)]
   unfold finL
   rw [cutF, cutF]
   simp only
   rw [if_pos hb, if_pos e3, e2]
  ·have t1 : takeP y b.toNat = begP (endS y) b.toNat := by
    unfold takeP
    rw [if_pos h2, hg, if_neg (by simp), if_pos hb]
   have t2 : takeP (endS y) b.toNat = begP (endS y) b.toNat := by
    unfold takeP
    rw [if_neg (by omega), if_neg (by omega), if_neg (by omega), if_neg (by omega)]
   unfold finL
   rw [cutF, cutF, if_neg (by omega), if_neg (by omega), t1, t2]
def blankB (b : UInt8) : Prop := b = 9 ∨ b = 13 ∨ b = 32
theorem fin_blank (ps : List Pf) (hi : Int) (l : List UInt8) {b : UInt8} (hb : blankB b) {st : Int} (hs : st = 0 ∨ st = 1) : finL (b :: l) (atR ps st hi) = finL l (atR ps 0 hi) := by
 refine fin_step (.inl ?_) ?_
 ·rcases hb with rfl | rfl | rfl <;> decide
 ·have h9 : ((b.toNat : Int) = 9 ∨ (b.toNat : Int) = 13 ∨ (b.toNat : Int) = 32) := by rcases hb with rfl | rfl | rfl <;> simp
  unfold takeP atR
  simp only
  rw [if_neg (by omega), if_neg (by omega), if_neg (by omega), if_neg (by omega)]
  unfold begP
  rw [if_pos h9]
theorem fin_blanks (ps : List Pf) (hi : Int) (l : List UInt8) : ∀ (bl : List UInt8), (∀ b ∈ bl, blankB b) → ∀ {st : Int}, st = 0 ∨ st = 1 → bl ≠ [] → finL (bl ++ l) (atR ps st hi) = finL l (atR ps 0 hi)
 | [], _, _, _, h => absurd rfl h
 | [b], hb, st, hs, _ => fin_blank ps hi l (hb b List.mem_cons_self) hs
 | b :: c :: bl, hb, st, hs, _ => by
  rw [List.cons_append, fin_blank ps hi _ (hb b List.mem_cons_self) hs]
  exact fin_blanks ps hi l (c :: bl) (fun x hx => hb x (List.mem_cons_of_mem _ hx)) (.inl rfl) (by simp)
theorem fin_blanks0 (ps : List Pf) (hi : Int) (l bl : List UInt8) (hb : ∀ b ∈ bl, blankB b) : finL (bl ++ l) (atR ps 0 hi) = finL l (atR ps 0 hi) := by
 cases bl with
 | nil => rfl
 | cons b bl => exact fin_blanks ps hi l (b :: bl) hb (.inl rfl) (by simp)
theorem fin_colon (ps : List Pf) (hi : Int) (l : List UInt8) {st : Int} (hs : st = 0 ∨ st = 1) : finL (58 :: l) (atR ps st hi) = finL l (atR (ps ++ [⟨3, ⟨#[]⟩, 0, false⟩]) 0 hi) := by
 refine fin_step (.inl (by decide)) ?_
 unfold takeP atR
 simp only
 rw [if_neg (by omega), if_neg (by omega), if_neg (by omega), if_neg (by omega)]
 unfold begP
 rw [if_neg (by decide), if_pos (by decide)]
def nums8 (l : List UInt8) : List Int := l.map (fun b => (b.toNat : Int))
theorem fin_more (ps : List Pf) (hi : Int) (l : List UInt8) {st : Int} (hs : st = 2 ∨ st = 3) : ∀ (s : List UInt8) (un : List Int), (∀ b ∈ s, goP b.toNat = true) → finL (s ++ l) ⟨ps, st, un, hi⟩ = finL l ⟨ps, st, un ++ nums8 s, hi⟩
 | [], un, _ => by simp [nums8]
 | b :: s, un, h => by
  have hb := h b List.mem_cons_self
  have h59 : b.toNat ≠ 59 := fun e => by rw [e] at hb; revert hb; decide
  rw [List.cons_append, fin_step (.inl h59) (y := ⟨ps, st, un ++ [(b.toNat : Int)], hi⟩) (by unfold takeP; rw [if_pos hs, if_pos hb]), fin_more ps hi l hs s _ (fun c hc => h c (List.mem_cons_of_mem _ hc))]
  simp [nums8]
structure WordL (s : List UInt8) : Prop where
 ne : s ≠ []
 head : isLP (s.headD 0).toNat = true
 all : ∀ b ∈ s, goP b.toNat = true
theorem strN8 (s : List UInt8) : str (nums8 s) = ⟨s.toArray⟩ := str_of ⟨s.toArray⟩ s (by simp)
theorem lp_no {r : Int} (h : isLP r = true) : ¬ (r = 9 ∨ r = 13 ∨ r = 32) ∧ r ≠ 58 ∧ r ≠ 34 ∧ r ≠ 59 := by
 unfold isLP at h
 simp only [decide_eq_true_eq] at h
 omega
theorem fin_word (ps : List Pf) (hi : Int) (l s : List UInt8) (h : WordL s) (hl : ∀ b r, l = b :: r → goP b.toNat = false) : finL (s ++ l) (atR ps 0 hi) = finL l (atR (ps ++ [⟨0, ⟨s.toArray⟩, 0, false⟩]) 1 hi) := by
 obtain ⟨hne, hh, ha⟩ := h
 cases s with
 | nil => exact absurd rfl hne
 | cons b s =>
  have hb : isLP b.toNat = true := hh
  obtain ⟨n1, n2, n3, n4⟩ := lp_no hb
  rw [List.cons_append, fin_step (.inl (by omega)) (y := ⟨ps, 2, [(b.toNat : Int)], hi⟩) (by
   unfold takeP atR
   simp only
   rw [if_neg (by omega), if_neg (by omega), if_neg (by omega), if_neg (by omega)]
   unfold begP
   rw [if_neg n1, if_neg n2, if_neg (by simp), if_neg n3, if_pos hb]
   rfl), fin_more ps hi l (.inl rfl) s _ (fun c hc => ha c (List.mem_cons_of_mem _ hc)), fin_end (.inl rfl) rfl hl]
  have e : [(b.toNat : Int)] ++ nums8 s = nums8 (b :: s) := rfl
  rw [e]
  unfold endS
  rw [if_pos rfl, strN8]
  rfl
theorem fin_num (ps : List Pf) (hi : Int) (l s : List UInt8) (hne : s ≠ []) (hh : isDP (s.headD 0).toNat = true ∨ s.headD 0 = 45) (ha : ∀ b ∈ s.tail, goP b.toNat = true) (hok : okN s = true) (hl : ∀ b r, l = b :: r → goP b.toNat = false) :
  finL (s ++ l) (atR ps 0 hi) = finL l (atR (ps ++ [⟨1, ⟨#[]⟩, valN s, farN s⟩]) 1 hi) := by
 cases s with
 | nil => exact absurd rfl hne
 | cons b s =>
  have hb : isDP b.toNat = true ∨ (b.toNat : Int) = 45 := by
   rcases hh with h | h
   ·exact .inl h
   ·exact .inr (by
     have h : b = 45 := h
     rw [h]
     rfl)
  have hn : ¬ ((b.toNat : Int) = 9 ∨ (b.toNat : Int) = 13 ∨ (b.toNat : Int) = 32) ∧ (b.toNat : Int) ≠ 58 ∧ (b.toNat : Int) ≠ 34 ∧ (b.toNat : Int) ≠ 59 ∧ isLP b.toNat = false := by
   unfold isDP at hb
   unfold isLP
   simp only [decide_eq_true_eq, decide_eq_false_iff_not] at hb ⊢
   omega
  obtain ⟨n1, n2, n3, n4, n5⟩ := hn
  have e9 : [(b.toNat : Int)] ++ nums8 s = nums8 (b :: s) := rfl
  have e8 : (str (nums8 (b :: s))).data.toList = b :: s := by rw [strN8]
  rw [List.cons_append, fin_step (.inl (by omega)) (y := ⟨ps, 3, [(b.toNat : Int)], hi⟩) (by
   unfold takeP atR
   simp only
   rw [if_neg (by omega), if_neg (by omega), if_neg (by omega), if_neg (by omega)]
   unfold begP
   rw [if_neg n1, if_neg n2, if_neg (by simp), if_neg n3, n5, if_neg (by simp), if_pos hb]
   rfl), fin_more ps hi l (.inr rfl) s _ (fun c hc => ha c hc), e9, fin_end (.inr rfl) (by
    unfold endB
    rw [if_neg (by simp), if_pos rfl, e8]
    exact hok) hl]
  unfold endS
  rw [if_neg (by simp), if_pos rfl]
  simp only [e8]
  rfl
def u8 (l : List Int) : List UInt8 := l.map (fun x => UInt8.ofNat x.toNat)
theorem hexd_hex : ∀ n : Nat, n < 16 → hexP ((UInt8.ofNat (hexd (n : Int)).toNat).toNat : Int) = (n : Int) ∧ (UInt8.ofNat (hexd (n : Int)).toNat).toNat ≠ 59 := by decide
theorem fin_q1 (ps : List Pf) (l : List UInt8) (x : Int) (hx : 0 ≤ x ∧ x ≤ 255) (un : List Int) (hi : Int) : ∃ hi', finL (u8 (qa x) ++ l) ⟨ps, 4, un, hi⟩ = finL l ⟨ps, 4, un ++ [x], hi'⟩ := by
 obtain ⟨n, rfl⟩ := Int.eq_ofNat_of_zero_le hx.1
 have hn : n < 256 := by omega
 have en : ((UInt8.ofNat n).toNat : Int) = (n : Int) := by
  rw [UInt8.toNat_ofNat']
  omega
 have t4 : ∀ (r : Int) (un : List Int) (hi : Int), takeP ⟨ps, 4, un, hi⟩ r = withP ⟨ps, 4, un, hi⟩ r := fun r un hi => by
  unfold takeP
  rw [if_neg (by simp), if_pos rfl]
 have t5 : ∀ (r : Int) (un : List Int) (hi : Int), takeP ⟨ps, 5, un, hi⟩ r = escP ⟨ps, 5, un, hi⟩ r := fun r un hi => by
  unfold takeP
  rw [if_neg (by simp), if_neg (by simp), if_pos rfl]
 have t6 : ∀ (r : Int) (un : List Int) (hi : Int), takeP ⟨ps, 6, un, hi⟩ r = digP ⟨ps, 6, un, hi⟩ r := fun r un hi => by
  unfold takeP
  rw [if_neg (by simp), if_neg (by simp), if_neg (by simp), if_pos (by simp)]
 have t7 : ∀ (r : Int) (un : List Int) (hi : Int), takeP ⟨ps, 7, un, hi⟩ r = digP ⟨ps, 7, un, hi⟩ r := fun r un hi => by
  unfold takeP
  rw [if_neg (by simp), if_neg (by simp), if_neg (by simp), if_pos (by simp)]
 unfold qa
 by_cases h1 : (n : Int) = 34 ∨ (n : Int) = 92
 ·rw [if_pos h1]
  refine ⟨hi, ?_⟩
  show finL (92 :: UInt8.ofNat n :: l) _ = _
  rw [fin_step (.inr (by simp)) (y := ⟨ps, 5, un, hi⟩) (by rw [t4]; unfold withP; rw [if_neg (by decide), if_pos (by decide)]), fin_step (.inr (by simp)) (y := ⟨ps, 4, un ++ [(n : Int)], hi⟩) (by rw [t5, en]; unfold escP; rw [if_pos h1])]
 ·rw [if_neg h1]
  by_cases h2 : (n : Int) < 32 ∨ 126 < (n : Int)
  ·rw [if_pos h2]
   have ha := hexd_hex (n / 16) (by omega)
   have hb := hexd_hex (n % 16) (by omega)
   refine ⟨((n / 16 : Nat) : Int), ?_⟩
   show finL (92 :: 120 :: UInt8.ofNat (hexd ((n : Int) / 16)).toNat :: UInt8.ofNat (hexd ((n : Int) % 16)).toNat :: l) _ = _
   have q1 : ((n : Int) / 16) = ((n / 16 : Nat) : Int) := by omega
   have q2 : ((n : Int) % 16) = ((n % 16 : Nat) : Int) := by omega
   rw [q1, q2]
   rw [fin_step (.inr (by simp)) (y := ⟨ps, 5, un, hi⟩) (by rw [t4]; unfold withP; rw [if_neg (by decide), if_pos (by decide)]),
    fin_step (.inr (by simp)) (y := ⟨ps, 6, un, hi⟩) (by rw [t5]; unfold escP; rw [if_neg (by decide), if_pos (by decide)]),
    fin_step (.inr (by simp)) (y := ⟨ps, 7, un, ((n / 16 : Nat) : Int)⟩) (by rw [t6]; unfold digP; rw [ha.1, if_neg (by omega), if_pos rfl]),
    fin_step (.inr (by simp)) (y := ⟨ps, 4, un ++ [(n : Int)], ((n / 16 : Nat) : Int)⟩) (by
     rw [t7]
     unfold digP
     rw [hb.1, if_neg (by omega), if_neg (by simp)]
     have : byteOf ((n / 16 : Nat) : Int) ((n % 16 : Nat) : Int) = (n : Int) := by unfold byteOf; omega
     simp only [this])]
  ·rw [if_neg h2]
   refine ⟨hi, ?_⟩
   show finL (UInt8.ofNat n :: l) _ = _
   rw [fin_step (.inr (by simp)) (y := ⟨ps, 4, un ++ [(n : Int)], hi⟩) (by
    rw [t4, en]
    unfold withP
    rw [if_neg (by omega), if_neg (by omega), if_neg h2])]
theorem fin_qs (ps : List Pf) (l : List UInt8) : ∀ (xs : List Int), (∀ x ∈ xs, 0 ≤ x ∧ x ≤ 255) → ∀ (un : List Int) (hi : Int), ∃ hi', finL (u8 (xs.flatMap qa) ++ l) ⟨ps, 4, un, hi⟩ = finL l ⟨ps, 4, un ++ xs, hi'⟩
 | [], _, un, hi => ⟨hi, by simp [u8]⟩
 | x :: xs, h, un, hi => by
  obtain ⟨h1, e1⟩ := fin_q1 ps (u8 (xs.flatMap qa) ++ l) x (h x List.mem_cons_self) un hi
  obtain ⟨h2, e2⟩ := fin_qs ps l xs (fun y hy => h y (List.mem_cons_of_mem _ hy)) (un ++ [x]) h1
  refine ⟨h2, ?_⟩
  have e : u8 ((x :: xs).flatMap qa) ++ l = u8 (qa x) ++ (u8 (xs.flatMap qa) ++ l) := by simp [u8]
  rw [e, e1, e2]
  simp
theorem fin_str (ps : List Pf) (l : List UInt8) (xs : List Int) (hx : ∀ x ∈ xs, 0 ≤ x ∧ x ≤ 255) (hi : Int) : ∃ hi', finL (u8 (quoteA xs) ++ l) (atR ps 0 hi) = finL l (atR (ps ++ [⟨2, str xs, 0, false⟩]) 1 hi') := by
 obtain ⟨h1, e1⟩ := fin_qs ps (34 :: l) xs hx [] hi
 refine ⟨h1, ?_⟩
 have e : u8 (quoteA xs) ++ l = 34 :: (u8 (xs.flatMap qa) ++ 34 :: l) := by simp [u8, quoteA]
 rw [e, fin_step (.inl (by decide)) (y := ⟨ps, 4, [], hi⟩) (by
  unfold takeP atR
  simp only
  rw [if_neg (by omega), if_neg (by omega), if_neg (by omega), if_neg (by omega)]
  unfold begP
  rw [if_neg (by decide), if_neg (by decide), if_neg (by simp), if_pos (by decide)]), e1, fin_step (.inr (by simp)) (y := ⟨ps ++ [⟨2, str xs, 0, false⟩], 1, [], h1⟩) (by
  unfold takeP
  rw [if_neg (by simp), if_pos rfl]
  unfold withP
  rw [if_pos (by decide)]
  simp)]
 rfl
theorem uintM_app (M : Nat) (r : List UInt8) : ∀ (l : List UInt8) (acc v : Nat), Lib.parseUintM M acc l = .ok v → Lib.parseUintM M acc (l ++ r) = Lib.parseUintM M v r
 | [], acc, v, h => by
  rw [Lib.parseUintM] at h
  cases h
  rfl
 | c :: l, acc, v, h => by
  rw [Lib.parseUintM] at h
  rw [List.cons_append, Lib.parseUintM]
  split at h
  ·rename_i hc
   rw [if_pos hc]
   split at h
   ·cases h
   ·rename_i h1
    rw [if_neg h1]
    split at h
    ·cases h
    ·rename_i h2
     rw [if_neg h2]
     exact uintM_app M r l _ v h
  ·cases h
theorem dig8 (d : Nat) (h : d < 10) : (UInt8.ofNat (48 + d)).toNat = 48 + d := by
 rw [UInt8.toNat_ofNat']
 omega
theorem uintM_dig (acc d : Nat) (h : d < 10) (ha : acc * 10 + d ≤ 18446744073709551615) : Lib.parseUintM 18446744073709551615 acc [UInt8.ofNat (48 + d)] = .ok (acc * 10 + d) := by
 rw [Lib.parseUintM, dig8 d h, if_pos (by omega), if_neg (by omega), if_neg (by omega), Lib.parseUintM]
 congr 1
 omega
theorem uintM_decs (u : Nat) : u ≤ 18446744073709551615 → Lib.parseUintM 18446744073709551615 0 (Lib.decDigits u) = .ok u := by
 induction u using Nat.strongRecOn with
 | ind u ih =>
  intro hu
  by_cases h : u < 10
  ·rw [Lib.decDigits_one h, uintM_dig 0 u h (by omega)]
   congr 1
   omega
  ·rw [dec_cons u (by omega), uintM_app _ _ _ 0 _ (ih (u / 10) (by omega) (by omega)), uintM_dig (u / 10) (u % 10) (by omega) (by omega)]
   congr 1
   omega
theorem dec_all (u : Nat) : ∀ b ∈ Lib.decDigits u, 48 ≤ b.toNat ∧ b.toNat ≤ 57 := by
 induction u using Nat.strongRecOn with
 | ind u ih =>
  intro b hb
  by_cases h : u < 10
  ·rw [Lib.decDigits_one h] at hb
   rw [List.mem_singleton.1 hb, dig8 u h]
   omega
  ·rw [dec_cons u (by omega)] at hb
   rcases List.mem_append.1 hb with hb | hb
   ·exact ih (u / 10) (by omega) b hb
   ·rw [List.mem_singleton.1 hb, dig8 _ (by omega)]
    omega
theorem dec_ne (u : Nat) : Lib.decDigits u ≠ [] := fun e => by
 have := Lib.decDigits_length u
 rw [e] at this
 have h := Lib.nDigits_pos u
 simp at this
 omega
theorem dec_inj {u v : Nat} (hu : u ≤ 18446744073709551615) (hv : v ≤ 18446744073709551615) (h : Lib.decDigits u = Lib.decDigits v) : u = v := by
 have h1 := uintM_decs u hu
 rw [h, uintM_decs v hv] at h1
 injection h1 with h1
 exact h1.symm
theorem made_dec (u : Nat) : madeP (Lib.decDigits u) dgL = true := by
 unfold madeP
 have h1 : (Lib.decDigits u).isEmpty = false := by
  cases e : Lib.decDigits u with
  | nil => exact absurd e (dec_ne u)
  | cons x y => rfl
 rw [h1]
 simp only [Bool.not_false, Bool.true_and, List.all_eq_true]
 intro b hb
 have := dec_all u b hb
 have h2 : ∀ n : Nat, n < 10 → dgL.contains (UInt8.ofNat (48 + n)) = true := by decide
 have h3 : b = UInt8.ofNat (48 + (b.toNat - 48)) := UInt8.toNat_inj.1 (by rw [dig8 _ (by omega)]; omega)
 rw [h3]
 exact h2 _ (by omega)
theorem uintB_dec (u : Nat) (h : u ≤ 18446744073709551615) : Lib.parseUintB 64 (Lib.decDigits u) = .ok u := by
 unfold Lib.parseUintB
 rw [if_neg (dec_ne u)]
 exact uintM_decs u h
theorem itoa_num (i : Int) (h : I64 i) : okN (Lib.itoa i) = true ∧ valN (Lib.itoa i) = i ∧ farN (Lib.itoa i) = false := by
 obtain ⟨h0, h1⟩ := h
 unfold Lib.itoa
 by_cases hn : i < 0
 ·rw [if_pos hn]
  have hp : Lib.hasPrefix (45 :: Lib.decDigits i.natAbs) [48, 120] = false := by
   simp [Lib.hasPrefix, List.isPrefixOf]
  have ht : Lib.trimPrefix (45 :: Lib.decDigits i.natAbs) [45] = Lib.decDigits i.natAbs := by
   simp [Lib.trimPrefix, Lib.hasPrefix, List.isPrefixOf]
  have hv : Lib.parseIntB 64 (45 :: Lib.decDigits i.natAbs) = .ok i := by
   unfold Lib.parseIntB
   simp only
   rw [if_pos (by decide), uintB_dec _ (by omega)]
   simp only
   rw [if_neg (by intro e; exact e.1 (by decide)), if_neg (by intro e; have := e.2; omega), if_pos (by decide)]
   congr 1
   omega
  refine ⟨?_, ?_, ?_⟩
  ·unfold okN
   rw [hp, ht]
   exact made_dec _
  ·unfold valN
   rw [hp, hv]
   rfl
  ·unfold farN
   rw [hp, hv]
   rfl
 ·rw [if_neg hn]
  obtain ⟨u, rfl⟩ := Int.eq_ofNat_of_zero_le (by omega : 0 ≤ i)
  rw [Int.toNat_natCast]
  cases e : Lib.decDigits u with
  | nil => exact absurd e (dec_ne u)
  | cons c r =>
   have hc := dec_all u c (by rw [e]; exact List.mem_cons_self)
   have hp : Lib.hasPrefix (c :: r) [48, 120] = false := by
    cases r with
    | nil => simp [Lib.hasPrefix, List.isPrefixOf]
    | cons d r =>
     have hd := dec_all u d (by rw [e]; exact List.mem_cons_of_mem _ List.mem_cons_self)
     have : d ≠ 120 := fun e => by rw [e] at hd; revert hd; decide
     simp [Lib.hasPrefix, List.isPrefixOf, Ne.symm this]
   have hc45 : c ≠ 45 := fun e => by rw [e] at hc; revert hc; decide
   have ht : Lib.trimPrefix (c :: r) [45] = c :: r := by
    simp [Lib.trimPrefix, Lib.hasPrefix, List.isPrefixOf, Ne.symm hc45]
   have hv : Lib.parseIntB 64 (c :: r) = .ok (u : Int) := by
    unfold Lib.parseIntB
    simp only
    rw [if_neg (by omega), ← e, uintB_dec _ (by omega)]
    simp only
    rw [if_neg (by intro h; have := h.2; omega), if_neg (by intro h; omega), if_neg (by omega)]
   refine ⟨?_, ?_, ?_⟩
   ·unfold okN
    rw [hp, ht, ← e]
    exact made_dec _
   ·unfold valN
    rw [hp, hv]
    rfl
   ·unfold farN
    rw [hp, hv]
    rfl
theorem itoa_nat (k : Nat) : Lib.itoa (k : Int) = Lib.decDigits k := by
 unfold Lib.itoa
 rw [if_neg (by omega), Int.toNat_natCast]
theorem fin_itoa (ps : List Pf) (hi : Int) (l : List UInt8) (i : Int) (h : I64 i) (hl : ∀ b r, l = b :: r → goP b.toNat = false) : finL (Lib.itoa i ++ l) (atR ps 0 hi) = finL l (atR (ps ++ [⟨1, ⟨#[]⟩, i, false⟩]) 1 hi) := by
 obtain ⟨h1, h2, h3⟩ := itoa_num i h
 have hg : ∀ (u : Nat) (b : UInt8), b ∈ Lib.decDigits u → goP b.toNat = true ∧ isDP b.toNat = true := fun u b hb => by
  have := dec_all u b hb
  unfold goP isDP
  simp
  omega
 have hp := fin_num ps hi l (Lib.itoa i)
 rw [h2, h3] at hp
 refine hp ?_ ?_ ?_ h1 hl
 ·unfold Lib.itoa
  split
  ·simp
  ·exact dec_ne _
 ·unfold Lib.itoa
  split
  ·exact .inr rfl
  ·cases e : Lib.decDigits i.toNat with
   | nil => exact absurd e (dec_ne _)
   | cons c r => exact .inl (hg _ c (by rw [e]; exact List.mem_cons_self)).2
 ·unfold Lib.itoa
  split
  ·exact fun b hb => (hg _ b hb).1
  ·exact fun b hb => (hg _ b (List.mem_of_mem_tail hb)).1
theorem rowS_kix (n : Nat) (h : n < insL.length) : (rowS insL (n : Int)).o = (kix n : Int) := by
 have h46 : n < 46 := h
 unfold rowS
 rw [if_pos ⟨by omega, by omega⟩]
 exact (kix_lt n h46).2
def lbN (pre : List UInt8) (k : Nat) : ByteArray := ⟨(pre ++ 76 :: Lib.decDigits k).toArray⟩
def fnN (pre : List UInt8) (k : Nat) : ByteArray := ⟨(pre ++ 102 :: Lib.decDigits k).toArray⟩
theorem lbN_inj {pre : List UInt8} {j k : Nat} (hj : j ≤ 1000000) (hk : k ≤ 1000000) (h : lbN pre j = lbN pre k) : j = k := by
 unfold lbN at h
 injection h with h
 have h := congrArg Array.toList h
 simp only at h
 have h := List.append_cancel_left h
 injection h with _ h
 exact dec_inj (by omega) (by omega) h
theorem fnN_inj {pre : List UInt8} {j k : Nat} (hj : j ≤ 1000000) (hk : k ≤ 1000000) (h : fnN pre j = fnN pre k) : j = k := by
 unfold fnN at h
 injection h with h
 have h := congrArg Array.toList h
 simp only at h
 have h := List.append_cancel_left h
 injection h with _ h
 exact dec_inj (by omega) (by omega) h
theorem ba_ne {l : List UInt8} (h : l ≠ []) : (⟨l.toArray⟩ : ByteArray) ≠ ⟨#[]⟩ := fun e => h (by
 injection e with e
 have := congrArg Array.toList e
 simpa using this)
theorem lbN_ne (pre : List UInt8) (k : Nat) : lbN pre k ≠ ⟨#[]⟩ := ba_ne (by simp)
theorem fnN_ne (pre : List UInt8) (k : Nat) : fnN pre k ≠ ⟨#[]⟩ := ba_ne (by simp)
def pw (s : ByteArray) : Pf := ⟨0, s, 0, false⟩
def pn (i : Int) : Pf := ⟨1, ⟨#[]⟩, i, false⟩
def pq (xs : List Int) : Pf := ⟨2, str xs, 0, false⟩
def pc : Pf := ⟨3, ⟨#[]⟩, 0, false⟩
def opP (pre : List UInt8) (s : Sh) (a pl fs : Int) : List Pf :=
 if s.o = 0 then [] else if s.o = 3 ∧ a ≤ pl then [pw (lbN pre a.toNat)] else if s.o = 4 ∧ a < fs then [pw (fnN pre a.toNat)] else if s.o = 5 then [pw (rowS sysL a).nm] else [pn a]
def insP (pre : List UInt8) (x : IN) (pl fs : Int) : List Pf := pw (rowS insL x.op).nm :: opP pre (rowS insL x.op) x.a pl fs
def waitB (x : IN) (pl fs : Int) : Bool := decide (((rowS insL x.op).o = 3 ∧ x.a ≤ pl) ∨ ((rowS insL x.op).o = 4 ∧ x.a < fs))
def codQ (pl fs : Int) (x : IN) : IN := ⟨x.op, if waitB x pl fs = true then 0 else x.a⟩
def wdQ (pre : List UInt8) (x : IN) (pl fs : Int) : ByteArray := if (rowS insL x.op).o = 3 ∧ x.a ≤ pl then lbN pre x.a.toNat else if (rowS insL x.op).o = 4 ∧ x.a < fs then fnN pre x.a.toNat else ⟨#[]⟩
theorem wdQ_wait (pre : List UInt8) (x : IN) (pl fs : Int) : wdQ pre x pl fs = ⟨#[]⟩ ↔ waitB x pl fs = false := by
 unfold wdQ waitB
 by_cases h1 : (rowS insL x.op).o = 3 ∧ x.a ≤ pl
 ·rw [if_pos h1]
  simp only [decide_eq_false_iff_not]
  exact ⟨fun h => absurd h (lbN_ne _ _), fun h => absurd (.inl h1) h⟩
 ·rw [if_neg h1]
  by_cases h2 : (rowS insL x.op).o = 4 ∧ x.a < fs
  ·rw [if_pos h2]
   simp only [decide_eq_false_iff_not]
   exact ⟨fun h => absurd h (fnN_ne _ _), fun h => absurd (.inr h2) h⟩
  ·rw [if_neg h2]
   simp only [decide_eq_false_iff_not, true_iff]
   rintro (h | h)
   ·exact h1 h
   ·exact h2 h
theorem ins_ixN : ∀ n : Nat, n < 46 → ixN insL (insL.getD n Sh.none).nm = some n ∧ (insL.getD n Sh.none).nm ≠ memB ∧ (insL.getD n Sh.none).nm ≠ datB ∧ (insL.getD n Sh.none).nm ≠ funB := by decide +kernel
theorem sys_ixN : ∀ n : Nat, n < sysL.length → ixN sysL (sysL.getD n Sh.none).nm = some n := by decide +kernel
theorem kix_o : ∀ n : Nat, n < 46 → kix n ≤ 6 ∧ (kix n = 5 → (endOf 5 = (sysL.length : Int))) ∧ (kix n = 4 → n = 17) ∧ (n = 17 → kix n = 4) := by decide +kernel
theorem ins_right {x : IN} (h : errI x = 0) : ∃ n : Nat, n < 46 ∧ x.op = (n : Int) ∧ rowS insL x.op = insL.getD n Sh.none ∧ (rowS insL x.op).o = (kix n : Int) ∧ mayP (kix n) x.a = true := by
 unfold errI at h
 by_cases hr : isRow insL x.op = true
 ·rw [if_pos hr] at h
  have hr2 := of_decide_eq_true hr
  obtain ⟨i, hi⟩ := Int.eq_ofNat_of_zero_le hr2.1
  have hi46 : i < 46 := by have := hr2.2; have e : insL.length = 46 := rfl; omega
  have hro := (row_at (L := insL) (k := i) (by have e : insL.length = 46 := rfl; omega)).1
  refine ⟨i, hi46, hi, by rw [hi]; exact hro, by rw [hi]; exact rowS_kix i (by have e : insL.length = 46 := rfl; omega), ?_⟩
  by_cases hm : mayP (kOf x.op) x.a = true
  ·have : kOf x.op = kix i := by unfold kOf; rw [hi]; rfl
   rw [← this]
   exact hm
  ·rw [if_neg hm] at h
   exact absurd h (by decide)
 ·rw [if_neg hr] at h
  exact absurd h (by decide)
theorem instr_ins (pre : List UInt8) (pl fs : Int) {x : IN} (h : errI x = 0) : instrF (insP pre x pl fs) = some (x.op, (codQ pl fs x).a, wdQ pre x pl fs) ∧ (insP pre x pl fs).any Pf.f = false := by
 obtain ⟨n, hn, hop, hro, ho, hm⟩ := ins_right h
 obtain ⟨h1, h2, h3, h4⟩ := ins_ixN n hn
 obtain ⟨k5, k6, -, -⟩ := kix_o n hn
 unfold insP instrF
 have e0 : (pw (rowS insL x.op).nm).k = 0 := rfl
 have e1 : (pw (rowS insL x.op).nm).s = (insL.getD n Sh.none).nm := by rw [hro]; rfl
 simp only [e0, e1, if_pos, h1]
 have ho2 : (rowS insL (n : Int)).o = (kix n : Int) := by rw [← hop]; exact ho
 rw [ho2]
 unfold opP codQ wdQ waitB
 rw [ho]
 by_cases k0 : kix n = 0
 ·rw [k0] at hm ⊢
  have ha : x.a = 0 := by simpa [mayP] using hm
  simp [operF, ha, hop, pw]
 have k0' : ¬ ((kix n : Int) = 0) := by omega
 rw [if_neg k0']
 by_cases h3 : (kix n : Int) = 3 ∧ x.a ≤ pl
 ·rw [if_pos h3, if_pos h3]
  have : kix n = 3 := by omega
  simp [operF, pw, h3, this, hop]
 rw [if_neg h3, if_neg h3]
 by_cases h4 : (kix n : Int) = 4 ∧ x.a < fs
 ·rw [if_pos h4, if_pos h4]
  have : kix n = 4 := by omega
  simp [operF, pw, h4, this, hop]
 rw [if_neg h4, if_neg h4]
 have hw : decide (((kix n : Int) = 3 ∧ x.a ≤ pl) ∨ ((kix n : Int) = 4 ∧ x.a < fs)) = false := by
  simp only [decide_eq_false_iff_not]
  rintro (h | h)
  ·exact h3 h
  ·exact h4 h
 rw [hw]
 by_cases h5 : (kix n : Int) = 5
 ·rw [if_pos h5]
  have e5 : kix n = 5 := by omega
  rw [e5] at hm
  have hm2 : 0 ≤ x.a ∧ x.a < endOf 5 := by simpa [mayP] using hm
  rw [k6 e5] at hm2
  obtain ⟨c, hc⟩ := Int.eq_ofNat_of_zero_le hm2.1
  have hcl : c < sysL.length := by omega
  have hx := sys_ixN c hcl
  have hrs := (row_at (L := sysL) (k := c) hcl).1
  rw [hc, hrs, e5]
  generalize (sysL.getD c Sh.none).nm = sn at *
  simp [operF, pw, hx, hop]
 ·rw [if_neg h5]
  simp [operF, pw, pn, k0', hop, k0]
end Go.Proofs.YtpfmhibdmehlcaaGreatDoor

import Derived.Test.YtcahibbfejomcaaGreatDoorTTx17
import Derived.Test.YtcahibbfejomcaaGreatDoorTTx11
import Derived.Test.YtcahibbfejomcaaGreatDoorTTx10
import Derived.Test.YtcahibbfejomcaaGreatDoorTTx2
import Derived.Deep.Strs
import Derived.Laws.IdiomStrings
import Derived.Test.YtcahibbfejomcaaGreatDoorTTx3
import Derived.Test.YtcahibbfejomcaaGreatDoorTTx7
namespace Go.Proofs.YtcahibbfejomcaaGreatDoor
open Go.RowKit
set_option linter.unusedVariables false
set_option linter.unusedSimpArgs false
set_option maxRecDepth 100000
def finL (l : List UInt8) (x : CS) : Option (List Pf) := match cutF l x with | none => none | some z => if endB z = true then some (endS z).ps else none
theorem cutV_finL (l : List UInt8) : cutV l = finL l ⟨[], 0, [], 0⟩ := rfl
def atR (ps : List Pf) (st : Int) (hi : Int) : CS := ⟨ps, st, [], hi⟩
theorem fin_step {b : UInt8} {l : List UInt8} {x y : CS} (h59 : b.toNat ≠ 59 ∨ 4 ≤ x.st) (h : takeP x b.toNat = some y) : finL (b :: l) x = finL l y := by
 unfold finL
 rw [cutF, if_neg (by omega), h]
theorem fin_semi {b : UInt8} {l : List UInt8} {x : CS} (h59 : b.toNat = 59) (hx : x.st < 4) : finL (b :: l) x = finL [] x := by
 have e1 : cutF (b :: l) x = some x := by rw [cutF, if_pos ⟨h59, hx⟩]
 have e2 : cutF [] x = some x := by rw [cutF]
 unfold finL
 rw [e1, e2]
theorem fin_nil (ps : List Pf) {st : Int} (hi : Int) (h : st = 0 ∨ st = 1) : finL [] (atR ps st hi) = some ps := by
 rcases h with rfl | rfl <;> rfl
theorem fin_end {y : CS} (h2 : y.st = 2 ∨ y.st = 3) (hb : endB y = true) : ∀ {l : List UInt8}, (∀ b r, l = b :: r → goP b.toNat = false) → finL l y = finL l (endS y) := by
 have e1 : (endS y).st = 1 := by
  unfold endS
  rcases h2 with h | h
  ·rw [if_pos h]
  ·rw [if_neg (by omega), if_pos h]
 have e2 : endS (endS y) = endS y := by
  have e : ∀ z : CS, z.st = 1 → endS z = z := fun z hz => by unfold endS; rw [if_neg (by omega), if_neg (by omega)]
  exact e _ e1
 have e3 : endB (endS y) = true := by
  have e : ∀ z : CS, z.st = 1 → endB z = true := fun z hz => by unfold endB; rw [if_neg (by omega), if_neg (by omega), hz]; rfl
  exact e _ e1
 intro l hl
 cases l with
 | nil =>
  unfold finL
  rw [cutF, cutF]
  simp only
  rw [if_pos hb, if_pos e3, e2]
 | cons b r =>
  have hg := hl b r rfl
  by_cases h59 : b.toNat = 59
  ·rw [fin_semi h59 (by omega), fin_semi h59 (by omega)]
   unfold finL
   rw [cutF, cutF]
   simp only
   rw [if_pos hb, if_pos e3, e2]
  ·have t1 : takeP y b.toNat = begP (endS y) b.toNat := by
    unfold takeP
    rw [if_pos h2, hg, if_neg (by simp), if_pos hb]
   have t2 : takeP (endS y) b.toNat = begP (endS y) b.toNat := by
    unfold takeP
    rw [if_neg (by omega), if_neg (by omega), if_neg (by omega), if_neg (by omega)]
   unfold finL
   rw [cutF, cutF, if_neg (by omega), if_neg (by omega), t1, t2]
def blankB (b : UInt8) : Prop := b = 9 ∨ b = 13 ∨ b = 32
theorem fin_blank (ps : List Pf) (hi : Int) (l : List UInt8) {b : UInt8} (hb : blankB b) {st : Int} (hs : st = 0 ∨ st = 1) : finL (b :: l) (atR ps st hi) = finL l (atR ps 0 hi) := by
 refine fin_step (.inl ?_) ?_
 ·rcases hb with rfl | rfl | rfl <;> decide
 ·have h9 : ((b.toNat : Int) = 9 ∨ (b.toNat : Int) = 13 ∨ (b.toNat : Int) = 32) := by rcases hb with rfl | rfl | rfl <;> simp
  unfold takeP atR
  simp only
  rw [if_neg (by omega), if_neg (by omega), if_neg (by omega), if_neg (by omega)]
  unfold begP
  rw [if_pos h9]
theorem fin_blanks (ps : List Pf) (hi : Int) (l : List UInt8) : ∀ (bl : List UInt8), (∀ b ∈ bl, blankB b) → ∀ {st : Int}, st = 0 ∨ st = 1 → bl ≠ [] → finL (bl ++ l) (atR ps st hi) = finL l (atR ps 0 hi)
 | [], _, _, _, h => absurd rfl h
 | [b], hb, st, hs, _ => fin_blank ps hi l (hb b List.mem_cons_self) hs
 | b :: c :: bl, hb, st, hs, _ => by
  rw [List.cons_append, fin_blank ps hi _ (hb b List.mem_cons_self) hs]
  exact fin_blanks ps hi l (c :: bl) (fun x hx => hb x (List.mem_cons_of_mem _ hx)) (.inl rfl) (by simp)
theorem fin_blanks0 (ps : List Pf) (hi : Int) (l bl : List UInt8) (hb : ∀ b ∈ bl, blankB b) : finL (bl ++ l) (atR ps 0 hi) = finL l (atR ps 0 hi) := by
 cases bl with
 | nil => rfl
 | cons b bl => exact fin_blanks ps hi l (b :: bl) hb (.inl rfl) (by simp)
theorem fin_colon (ps : List Pf) (hi : Int) (l : List UInt8) {st : Int} (hs : st = 0 ∨ st = 1) : finL (58 :: l) (atR ps st hi) = finL l (atR (ps ++ [⟨3, ⟨#[]⟩, 0, false⟩]) 0 hi) := by
 refine fin_step (.inl (by decide)) ?_
 unfold takeP atR
 simp only
 rw [if_neg (by omega), if_neg (by omega), if_neg (by omega), if_neg (by omega)]
 unfold begP
 rw [if_neg (by decide), if_pos (by decide)]
def nums8 (l : List UInt8) : List Int := l.map (fun b => (b.toNat : Int))
theorem fin_more (ps : List Pf) (hi : Int) (l : List UInt8) {st : Int} (hs : st = 2 ∨ st = 3) : ∀ (s : List UInt8) (un : List Int), (∀ b ∈ s, goP b.toNat = true) → finL (s ++ l) ⟨ps, st, un, hi⟩ = finL l ⟨ps, st, un ++ nums8 s, hi⟩
 | [], un, _ => by simp [nums8]
 | b :: s, un, h => by
  have hb := h b List.mem_cons_self
  have h59 : b.toNat ≠ 59 := fun e => by rw [e] at hb; revert hb; decide
  rw [List.cons_append, fin_step (.inl h59) (y := ⟨ps, st, un ++ [(b.toNat : Int)], hi⟩) (by unfold takeP; rw [if_pos hs, if_pos hb]), fin_more ps hi l hs s _ (fun c hc => h c (List.mem_cons_of_mem _ hc))]
  simp [nums8]
structure WordL (s : List UInt8) : Prop where
 ne : s ≠ []
 head : isLP (s.headD 0).toNat = true
 all : ∀ b ∈ s, goP b.toNat = true
theorem strN8 (s : List UInt8) : str (nums8 s) = ⟨s.toArray⟩ := str_of ⟨s.toArray⟩ s (by simp)
theorem lp_no {r : Int} (h : isLP r = true) : ¬ (r = 9 ∨ r = 13 ∨ r = 32) ∧ r ≠ 58 ∧ r ≠ 34 ∧ r ≠ 59 := by
 unfold isLP at h
 simp only [decide_eq_true_eq] at h
 omega
theorem fin_word (ps : List Pf) (hi : Int) (l s : List UInt8) (h : WordL s) (hl : ∀ b r, l = b :: r → goP b.toNat = false) : finL (s ++ l) (atR ps 0 hi) = finL l (atR (ps ++ [⟨0, ⟨s.toArray⟩, 0, false⟩]) 1 hi) := by
 obtain ⟨hne, hh, ha⟩ := h
 cases s with
 | nil => exact absurd rfl hne
 | cons b s =>
  have hb : isLP b.toNat = true := hh
  obtain ⟨n1, n2, n3, n4⟩ := lp_no hb
  rw [List.cons_append, fin_step (.inl (by omega)) (y := ⟨ps, 2, [(b.toNat : Int)], hi⟩) (by
   unfold takeP atR
   simp only
   rw [if_neg (by omega), if_neg (by omega), if_neg (by omega), if_neg (by omega)]
   unfold begP
   rw [if_neg n1, if_neg n2, if_neg (by simp), if_neg n3, if_pos hb]
   rfl), fin_more ps hi l (.inl rfl) s _ (fun c hc => ha c (List.mem_cons_of_mem _ hc)), fin_end (.inl rfl) rfl hl]
  have e : [(b.toNat : Int)] ++ nums8 s = nums8 (b :: s) := rfl
  rw [e]
  unfold endS
  rw [if_pos rfl, strN8]
  rfl
theorem fin_num (ps : List Pf) (hi : Int) (l s : List UInt8) (hne : s ≠ []) (hh : isDP (s.headD 0).toNat = true ∨ s.headD 0 = 45) (ha : ∀ b ∈ s.tail, goP b.toNat = true) (hok : okN s = true) (hl : ∀ b r, l = b :: r → goP b.toNat = false) :
  finL (s ++ l) (atR ps 0 hi) = finL l (atR (ps ++ [⟨1, ⟨#[]⟩, valN s, farN s⟩]) 1 hi) := by
 cases s with
 | nil => exact absurd rfl hne
 | cons b s =>
  have hb : isDP b.toNat = true ∨ (b.toNat : Int) = 45 := by
   rcases hh with h | h
   ·exact .inl h
   ·exact .inr (by
     have h : b = 45 := h
     rw [h]
     rfl)
  have hn : ¬ ((b.toNat : Int) = 9 ∨ (b.toNat : Int) = 13 ∨ (b.toNat : Int) = 32) ∧ (b.toNat : Int) ≠ 58 ∧ (b.toNat : Int) ≠ 34 ∧ (b.toNat : Int) ≠ 59 ∧ isLP b.toNat = false := by
   unfold isDP at hb
   unfold isLP
   simp only [decide_eq_true_eq, decide_eq_false_iff_not] at hb ⊢
   omega
  obtain ⟨n1, n2, n3, n4, n5⟩ := hn
  have e9 : [(b.toNat : Int)] ++ nums8 s = nums8 (b :: s) := rfl
  have e8 : (str (nums8 (b :: s))).data.toList = b :: s := by rw [strN8]
  rw [List.cons_append, fin_step (.inl (by omega)) (y := ⟨ps, 3, [(b.toNat : Int)], hi⟩) (by
   unfold takeP atR
   simp only
   rw [if_neg (by omega), if_neg (by omega), if_neg (by omega), if_neg (by omega)]
   unfold begP
   rw [if_neg n1, if_neg n2, if_neg (by simp), if_neg n3, n5, if_neg (by simp), if_pos hb]
   rfl), fin_more ps hi l (.inr rfl) s _ (fun c hc => ha c hc), e9, fin_end (.inr rfl) (by
    unfold endB
    rw [if_neg (by simp), if_pos rfl, e8]
    exact hok) hl]
  unfold endS
  rw [if_neg (by simp), if_pos rfl]
  simp only [e8]
  rfl
def u8 (l : List Int) : List UInt8 := l.map (fun x => UInt8.ofNat x.toNat)
theorem hexd_hex : ∀ n : Nat, n < 16 → hexP ((UInt8.ofNat (hexd (n : Int)).toNat).toNat : Int) = (n : Int) ∧ (UInt8.ofNat (hexd (n : Int)).toNat).toNat ≠ 59 := by decide
theorem fin_q1 (ps : List Pf) (l : List UInt8) (x : Int) (hx : 0 ≤ x ∧ x ≤ 255) (un : List Int) (hi : Int) : ∃ hi', finL (u8 (qa x) ++ l) ⟨ps, 4, un, hi⟩ = finL l ⟨ps, 4, un ++ [x], hi'⟩ := by
 obtain ⟨n, rfl⟩ := Int.eq_ofNat_of_zero_le hx.1
 have hn : n < 256 := by omega
 have en : ((UInt8.ofNat n).toNat : Int) = (n : Int) := by
  rw [UInt8.toNat_ofNat']
  omega
 have t4 : ∀ (r : Int) (un : List Int) (hi : Int), takeP ⟨ps, 4, un, hi⟩ r = withP ⟨ps, 4, un, hi⟩ r := fun r un hi => by
  unfold takeP
  rw [if_neg (by simp), if_pos rfl]
 have t5 : ∀ (r : Int) (un : List Int) (hi : Int), takeP ⟨ps, 5, un, hi⟩ r = escP ⟨ps, 5, un, hi⟩ r := fun r un hi => by
  unfold takeP
  rw [if_neg (by simp), if_neg (by simp), if_pos rfl]
 have t6 : ∀ (r : Int) (un : List Int) (hi : Int), takeP ⟨ps, 6, un, hi⟩ r = digP ⟨ps, 6, un, hi⟩ r := fun r un hi => by
  unfold takeP
  rw [if_neg (by simp), if_neg (by simp), if_neg (by simp), if_pos (by simp)]
 have t7 : ∀ (r : Int) (un : List Int) (hi : Int), takeP ⟨ps, 7, un, hi⟩ r = digP ⟨ps, 7, un, hi⟩ r := fun r un hi => by
  unfold takeP
  rw [if_neg (by simp), if_neg (by simp), if_neg (by simp), if_pos (by simp)]
 unfold qa
 by_cases h1 : (n : Int) = 34 ∨ (n : Int) = 92
 ·rw [if_pos h1]
  refine ⟨hi, ?_⟩
  show finL (92 :: UInt8.ofNat n :: l) _ = _
  rw [fin_step (.inr (by simp)) (y := ⟨ps, 5, un, hi⟩) (by rw [t4]; unfold withP; rw [if_neg (by decide), if_pos (by decide)]), fin_step (.inr (by simp)) (y := ⟨ps, 4, un ++ [(n : Int)], hi⟩) (by rw [t5, en]; unfold escP; rw [if_pos h1])]
 ·rw [if_neg h1]
  by_cases h2 : (n : Int) < 32 ∨ 126 < (n : Int)
  ·rw [if_pos h2]
   have ha := hexd_hex (n / 16) (by omega)
   have hb := hexd_hex (n % 16) (by omega)
   refine ⟨((n / 16 : Nat) : Int), ?_⟩
   show finL (92 :: 120 :: UInt8.ofNat (hexd ((n : Int) / 16)).toNat :: UInt8.ofNat (hexd ((n : Int) % 16)).toNat :: l) _ = _
   have q1 : ((n : Int) / 16) = ((n / 16 : Nat) : Int) := by omega
   have q2 : ((n : Int) % 16) = ((n % 16 : Nat) : Int) := by omega
   rw [q1, q2]
   rw [fin_step (.inr (by simp)) (y := ⟨ps, 5, un, hi⟩) (by rw [t4]; unfold withP; rw [if_neg (by decide), if_pos (by decide)]),
    fin_step (.inr (by simp)) (y := ⟨ps, 6, un, hi⟩) (by rw [t5]; unfold escP; rw [if_neg (by decide), if_pos (by decide)]),
    fin_step (.inr (by simp)) (y := ⟨ps, 7, un, ((n / 16 : Nat) : Int)⟩) (by rw [t6]; unfold digP; rw [ha.1, if_neg (by omega), if_pos rfl]),
    fin_step (.inr (by simp)) (y := ⟨ps, 4, un ++ [(n : Int)], ((n / 16 : Nat) : Int)⟩) (by
     rw [t7]
     unfold digP
     rw [hb.1, if_neg (by omega), if_neg (by simp)]
     have : byteOf ((n / 16 : Nat) : Int) ((n % 16 : Nat) : Int) = (n : Int) := by unfold byteOf; omega
     simp only [this])]
  ·rw [if_neg h2]
   refine ⟨hi, ?_⟩
   show finL (UInt8.ofNat n :: l) _ = _
   rw [fin_step (.inr (by simp)) (y := ⟨ps, 4, un ++ [(n : Int)], hi⟩) (by
    rw [t4, en]
    unfold withP
    rw [if_neg (by omega), if_neg (by omega), if_neg h2])]
theorem fin_qs (ps : List Pf) (l : List UInt8) : ∀ (xs : List Int), (∀ x ∈ xs, 0 ≤ x ∧ x ≤ 255) → ∀ (un : List Int) (hi : Int), ∃ hi', finL (u8 (xs.flatMap qa) ++ l) ⟨ps, 4, un, hi⟩ = finL l ⟨ps, 4, un ++ xs, hi'⟩
 | [], _, un, hi => ⟨hi, by simp [u8]⟩
 | x :: xs, h, un, hi => by
  obtain ⟨h1, e1⟩ := fin_q1 ps (u8 (xs.flatMap qa) ++ l) x (h x List.mem_cons_self) un hi
  obtain ⟨h2, e2⟩ := fin_qs ps l xs (fun y hy => h y (List.mem_cons_of_mem _ hy)) (un ++ [x]) h1
  refine ⟨h2, ?_⟩
  have e : u8 ((x :: xs).flatMap qa) ++ l = u8 (qa x) ++ (u8 (xs.flatMap qa) ++ l) := by simp [u8]
  rw [e, e1, e2]
  simp
theorem fin_str (ps : List Pf) (l : List UInt8) (xs : List Int) (hx : ∀ x ∈ xs, 0 ≤ x ∧ x ≤ 255) (hi : Int) : ∃ hi', finL (u8 (quoteA xs) ++ l) (atR ps 0 hi) = finL l (atR (ps ++ [⟨2, str xs, 0, false⟩]) 1 hi') := by
 obtain ⟨h1, e1⟩ := fin_qs ps (34 :: l) xs hx [] hi
 refine ⟨h1, ?_⟩
 have e : u8 (quoteA xs) ++ l = 34 :: (u8 (xs.flatMap qa) ++ 34 :: l) := by simp [u8, quoteA]
 rw [e, fin_step (.inl (by decide)) (y := ⟨ps, 4, [], hi⟩) (by
  unfold takeP atR
  simp only
  rw [if_neg (by omega), if_neg (by omega), if_neg (by omega), if_neg (by omega)]
  unfold begP
  rw [if_neg (by decide), if_neg (by decide), if_neg (by simp), if_pos (by decide)]), e1, fin_step (.inr (by simp)) (y := ⟨ps ++ [⟨2, str xs, 0, false⟩], 1, [], h1⟩) (by
  unfold takeP
  rw [if_neg (by simp), if_pos rfl]
  unfold withP
  rw [if_pos (by decide)]
  simp)]
 rfl
set_option maxHeartbeats 4000000 in
theorem sysname_any (s : ByteArray) (w : World) :
  Calls Tryz.prog 105 #[.string s] w fun e w' => e = .returned (namedV sysL s) ∧ Kept (fun _ => False) w w' := by
 go_enter Tryz.func105, Tryz.ntmps105
 go_wp2_with fail
 refine (sys_any _).mono ?_
 rintro e w1 ⟨rfl, hk1⟩
 have HK1 := hid_of hk1
 clear hk1
 obtain ⟨hO, hX, hK⟩ := new_row w1 z63 (tcells sysL).toArray 172
 go_upto_region 2 with (first | refine wpList_to rfl (some 4) rfl (.pointer (some ⟨w1.heap.size, 0, none⟩)) (w1.alloc (.cells z63 172)) (by kernel_rfl) ?_ | refine wpList_store_row rfl 172 _ _ rfl w1.heap.size (tcells sysL).toArray rfl rfl 172 _ hO size63 (by kernel_rfl) one63 ?_)
 clear hO
 generalize (w1.alloc (.cells z63 172)).setRow w1.heap.size (tcells sysL).toArray = w2 at *
 have HK2 := hid_of (HK1.out.trans hK)
 have HR := hid_of (named_any sysL w1.heap.size 172 s w2 hX (by decide))
 clear hK HK1
 go_wp2_with fail
 refine HR.out.mono ?_
 rintro e w3 ⟨rfl, hk3⟩
 have HK3 := hid_of (HK2.out.trans hk3)
 clear hk3 HR HK2 hX
 by_cases h : nameIx sysL s < sysL.length
 ·have HV := hid_of (show namedV sysL s = _ from if_pos h)
  rw [HV.out]
  generalize nameIx sysL s = k at *
  clear h
  go_wp2
  go_ret2
  exact ⟨congrArg Ending.returned HV.out.symm, HK3.out⟩
 ·have HV := hid_of (show namedV sysL s = _ from if_neg h)
  rw [HV.out]
  clear h
  go_wp2
  go_ret2
  exact ⟨congrArg Ending.returned HV.out.symm, HK3.out⟩
end Go.Proofs.YtcahibbfejomcaaGreatDoor

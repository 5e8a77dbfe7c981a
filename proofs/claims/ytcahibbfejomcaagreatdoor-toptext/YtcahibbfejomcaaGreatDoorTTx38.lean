import Derived.Test.YtcahibbfejomcaaGreatDoorTTx37
namespace Go.Proofs.YtcahibbfejomcaaGreatDoor
open Go.RowKit
set_option linter.unusedVariables false
set_option linter.unusedSimpArgs false
set_option maxRecDepth 100000
inductive Tk
 | tab
 | sp
 | col
 | w (s : List UInt8)
 | nm (c : UInt8) (k : Nat)
 | num (i : Int)
 | q (xs : List Int)
structure Wy where
 A : List UInt8
 B : List UInt8
 E : List UInt8
def Tk.txt (pre : List UInt8) (y : Wy) : Tk → List UInt8
 | .tab => y.A
 | .sp => 32 :: y.B
 | .col => y.B ++ [58]
 | .w s => s
 | .nm c k => pre ++ c :: Lib.decDigits k
 | .num i => Lib.itoa i
 | .q xs => u8 (quoteA xs)
def Tk.pcs (pre : List UInt8) : Tk → List Pf
 | .tab => []
 | .sp => []
 | .col => [pc]
 | .w s => [pw ⟨s.toArray⟩]
 | .nm c k => [pw ⟨(pre ++ c :: Lib.decDigits k).toArray⟩]
 | .num i => [pn i]
 | .q xs => [pq xs]
def Tk.ok : Tk → Prop
 | .w s => WordL s
 | .nm c _ => c = 76 ∨ c = 102
 | .num i => I64 i
 | .q xs => ∀ x ∈ xs, 0 ≤ x ∧ x ≤ 255
 | _ => True
def Tk.hard : Tk → Bool
 | .tab => false
 | .sp => false
 | .col => false
 | _ => true
def lin : Bool → List Tk → Prop
 | _, [] => True
 | true, .sp :: ts => lin false ts
 | true, .col :: ts => lin false ts
 | false, .tab :: ts => lin false ts
 | false, t :: ts => t.hard = true ∧ t.ok ∧ lin true ts
 | true, _ :: _ => False
structure Wy.Ok (y : Wy) : Prop where
 a : ∀ b ∈ y.A, blankB b
 b : ∀ b ∈ y.B, blankB b
 e : ∃ bl c, y.E = bl ++ c ∧ (∀ b ∈ bl, blankB b) ∧ (c = [] ∨ ∃ c', c = 59 :: c') ∧ ∀ b ∈ c, b ≠ 10
def preOk (pre : List UInt8) : Prop := pre = [] ∨ WordL pre
theorem blank_no {b : UInt8} (h : blankB b) : goP b.toNat = false ∧ b ≠ 10 := by
 rcases h with rfl | rfl | rfl <;> exact ⟨by decide, by decide⟩
theorem dec_go (u : Nat) : ∀ b ∈ Lib.decDigits u, goP b.toNat = true := fun b hb => by
 have := dec_all u b hb
 unfold goP isDP
 simp
 omega
theorem nm_word {pre : List UInt8} (hp : preOk pre) {c : UInt8} (hc : c = 76 ∨ c = 102) (k : Nat) : WordL (pre ++ c :: Lib.decDigits k) := by
 have hcg : goP c.toNat = true ∧ isLP c.toNat = true := by rcases hc with rfl | rfl <;> exact ⟨by decide, by decide⟩
 rcases hp with rfl | ⟨h1, h2, h3⟩
 ·refine ⟨by simp, hcg.2, fun b hb => ?_⟩
  rcases List.mem_cons.1 hb with rfl | hb
  ·exact hcg.1
  ·exact dec_go k b hb
 ·refine ⟨by simp, ?_, fun b hb => ?_⟩
  ·cases pre with
   | nil => exact absurd rfl h1
   | cons x xs => exact h2
  ·rcases List.mem_append.1 hb with hb | hb
   ·exact h3 b hb
   ·rcases List.mem_cons.1 hb with rfl | hb
    ·exact hcg.1
    ·exact dec_go k b hb
theorem fin_tail {y : Wy} (h : y.Ok) (ps : List Pf) (hi : Int) {st : Int} (hs : st = 0 ∨ st = 1) : finL y.E (atR ps st hi) = some ps := by
 obtain ⟨bl, c, e, hb, hc, _⟩ := h.e
 rw [e]
 have hc0 : ∀ st : Int, st = 0 ∨ st = 1 → finL c (atR ps st hi) = some ps := fun st hs => by
  rcases hc with rfl | ⟨c', rfl⟩
  ·exact fin_nil ps hi hs
  ·rw [fin_semi (by decide) (by rcases hs with rfl | rfl <;> simp [atR])]
   exact fin_nil ps hi hs
 by_cases hbl : bl = []
 ·subst hbl
  exact hc0 st hs
 ·rw [fin_blanks ps hi c bl hb hs hbl]
  exact hc0 0 (.inl rfl)
theorem tail_head {y : Wy} (h : y.Ok) : ∀ b r, y.E = b :: r → goP b.toNat = false := by
 obtain ⟨bl, c, e, hb, hc, _⟩ := h.e
 intro b r hbr
 rw [e] at hbr
 cases bl with
 | nil =>
  rcases hc with rfl | ⟨c', rfl⟩
  ·cases hbr
  ·cases hbr
   decide
 | cons x xs =>
  cases hbr
  exact (blank_no (hb _ List.mem_cons_self)).1
theorem rest_head (pre : List UInt8) {y : Wy} (h : y.Ok) : ∀ ts, lin true ts → ∀ b r, ts.flatMap (Tk.txt pre y) ++ y.E = b :: r → goP b.toNat = false
 | [], _, b, r, e => tail_head h b r (by simpa using e)
 | .sp :: ts, _, b, r, e => by
  have : b = 32 := by simp [Tk.txt] at e; exact e.1.symm
  subst this
  decide
 | .col :: ts, _, b, r, e => by
  have e' : y.B ++ (58 :: (ts.flatMap (Tk.txt pre y) ++ y.E)) = b :: r := by rw [← e]; simp [Tk.txt]
  cases hB : y.B with
  | nil =>
   rw [hB] at e'
   cases e'
   decide
  | cons x xs =>
   rw [hB] at e'
   cases e'
   exact (blank_no (h.b _ (by rw [hB]; exact List.mem_cons_self))).1
theorem fin_toks {pre : List UInt8} (hp : preOk pre) {y : Wy} (h : y.Ok) : ∀ (ts : List Tk) (q : Bool), lin q ts → ∀ (ps : List Pf) (hi : Int), finL (ts.flatMap (Tk.txt pre y) ++ y.E) (atR ps (if q then 1 else 0) hi) = some (ps ++ ts.flatMap (Tk.pcs pre))
 | [], q, _, ps, hi => by
  simp only [List.flatMap_nil, List.nil_append, List.append_nil]
  exact fin_tail h ps hi (by cases q <;> simp)
 | .sp :: ts, true, hl, ps, hi => by
  have e : (Tk.sp :: ts).flatMap (Tk.txt pre y) ++ y.E = (32 :: y.B) ++ (ts.flatMap (Tk.txt pre y) ++ y.E) := by simp [Tk.txt]
  rw [e, if_pos rfl, fin_blanks ps hi _ (32 :: y.B) (fun b hb => by rcases List.mem_cons.1 hb with rfl | hb; exact .inr (.inr rfl); exact h.b b hb) (.inr rfl) (by simp)]
  exact fin_toks hp h ts false hl ps hi
 | .col :: ts, true, hl, ps, hi => by
  have e : (Tk.col :: ts).flatMap (Tk.txt pre y) ++ y.E = y.B ++ (58 :: (ts.flatMap (Tk.txt pre y) ++ y.E)) := by simp [Tk.txt]
  rw [e, if_pos rfl]
  have e2 : finL (y.B ++ (58 :: (ts.flatMap (Tk.txt pre y) ++ y.E))) (atR ps 1 hi) = finL (ts.flatMap (Tk.txt pre y) ++ y.E) (atR (ps ++ [pc]) 0 hi) := by
   by_cases hB : y.B = []
   ·rw [hB]
    exact fin_colon ps hi _ (.inr rfl)
   ·rw [fin_blanks ps hi _ y.B h.b (.inr rfl) hB]
    exact fin_colon ps hi _ (.inl rfl)
  rw [e2]
  have := fin_toks hp h ts false hl (ps ++ [pc]) hi
  rw [if_neg (by simp)] at this
  rw [this]
  simp [Tk.pcs]
 | .tab :: ts, false, hl, ps, hi => by
  have e : (Tk.tab :: ts).flatMap (Tk.txt pre y) ++ y.E = y.A ++ (ts.flatMap (Tk.txt pre y) ++ y.E) := by simp [Tk.txt]
  rw [e, if_neg (by simp), fin_blanks0 ps hi _ y.A h.a]
  exact fin_toks hp h ts false hl ps hi
 | .w s :: ts, false, hl, ps, hi => by
  have e : (Tk.w s :: ts).flatMap (Tk.txt pre y) ++ y.E = s ++ (ts.flatMap (Tk.txt pre y) ++ y.E) := by simp [Tk.txt]
  rw [e, if_neg (by simp), fin_word ps hi _ s hl.2.1 (rest_head pre h ts hl.2.2)]
  have := fin_toks hp h ts true hl.2.2 (ps ++ [pw ⟨s.toArray⟩]) hi
  rw [if_pos rfl] at this
  refine this.trans ?_
  simp [Tk.pcs]
 | .nm c k :: ts, false, hl, ps, hi => by
  have e : (Tk.nm c k :: ts).flatMap (Tk.txt pre y) ++ y.E = (pre ++ c :: Lib.decDigits k) ++ (ts.flatMap (Tk.txt pre y) ++ y.E) := by simp [Tk.txt]
  rw [e, if_neg (by simp), fin_word ps hi _ _ (nm_word hp hl.2.1 k) (rest_head pre h ts hl.2.2)]
  have := fin_toks hp h ts true hl.2.2 (ps ++ [pw ⟨(pre ++ c :: Lib.decDigits k).toArray⟩]) hi
  rw [if_pos rfl] at this
  refine this.trans ?_
  simp [Tk.pcs]
 | .num i :: ts, false, hl, ps, hi => by
  have e : (Tk.num i :: ts).flatMap (Tk.txt pre y) ++ y.E = Lib.itoa i ++ (ts.flatMap (Tk.txt pre y) ++ y.E) := by simp [Tk.txt]
  rw [e, if_neg (by simp), fin_itoa ps hi _ i hl.2.1 (rest_head pre h ts hl.2.2)]
  have := fin_toks hp h ts true hl.2.2 (ps ++ [pn i]) hi
  rw [if_pos rfl] at this
  refine this.trans ?_
  simp [Tk.pcs]
 | .q xs :: ts, false, hl, ps, hi => by
  have e : (Tk.q xs :: ts).flatMap (Tk.txt pre y) ++ y.E = u8 (quoteA xs) ++ (ts.flatMap (Tk.txt pre y) ++ y.E) := by simp [Tk.txt]
  obtain ⟨hi', e2⟩ := fin_str ps (ts.flatMap (Tk.txt pre y) ++ y.E) xs hl.2.1 hi
  rw [e, if_neg (by simp), e2]
  have := fin_toks hp h ts true hl.2.2 (ps ++ [pq xs]) hi'
  rw [if_pos rfl] at this
  refine this.trans ?_
  simp [Tk.pcs]
theorem cut_toks {pre : List UInt8} (hp : preOk pre) {y : Wy} (h : y.Ok) (ts : List Tk) (hl : lin false ts) : cutV (ts.flatMap (Tk.txt pre y) ++ y.E) = some (ts.flatMap (Tk.pcs pre)) := by
 rw [cutV_finL]
 have := fin_toks hp h ts false hl [] 0
 rw [if_neg (by simp)] at this
 refine Eq.trans ?_ this
 rfl
theorem word_ten {s : List UInt8} (h : WordL s) : ∀ b ∈ s, b ≠ 10 := fun b hb e => by
 have := h.all b hb
 subst e
 exact absurd this (by decide)
theorem itoa_ten (i : Int) : ∀ b ∈ Lib.itoa i, b ≠ 10 := by
 intro b hb e
 subst e
 unfold Lib.itoa at hb
 split at hb
 ·rcases List.mem_cons.1 hb with h | h
  ·exact absurd h (by decide)
  ·exact absurd (dec_go _ _ h) (by decide)
 ·exact absurd (dec_go _ _ hb) (by decide)
theorem qa_ten : ∀ n : Nat, n < 256 → ∀ b ∈ u8 (qa (n : Int)), b ≠ 10 := by decide +kernel
theorem quote_ten (xs : List Int) (h : ∀ x ∈ xs, 0 ≤ x ∧ x ≤ 255) : ∀ b ∈ u8 (quoteA xs), b ≠ 10 := by
 intro b hb
 have e : u8 (quoteA xs) = 34 :: (u8 (xs.flatMap qa) ++ [34]) := by simp [u8, quoteA]
 rw [e] at hb
 rcases List.mem_cons.1 hb with rfl | hb
 ·decide
 ·rcases List.mem_append.1 hb with hb | hb
  ·obtain ⟨y, hy, rfl⟩ := List.mem_map.1 hb
   obtain ⟨x, hx, hy⟩ := List.mem_flatMap.1 hy
   obtain ⟨h0, h1⟩ := h x hx
   obtain ⟨n, rfl⟩ := Int.eq_ofNat_of_zero_le h0
   exact qa_ten n (by omega) _ (List.mem_map.2 ⟨y, hy, rfl⟩)
  ·rcases List.mem_cons.1 hb with rfl | hb
   ·decide
   ·exact absurd hb List.not_mem_nil
theorem tk_ten {pre : List UInt8} (hp : preOk pre) {y : Wy} (h : y.Ok) (t : Tk) (ht : t.ok) : ∀ b ∈ t.txt pre y, b ≠ 10 := by
 intro b hb
 cases t with
 | tab => exact (blank_no (h.a b hb)).2
 | sp =>
  rcases List.mem_cons.1 hb with rfl | hb
  ·decide
  ·exact (blank_no (h.b b hb)).2
 | col =>
  rcases List.mem_append.1 hb with hb | hb
  ·exact (blank_no (h.b b hb)).2
  ·rcases List.mem_cons.1 hb with rfl | hb
   ·decide
   ·exact absurd hb List.not_mem_nil
 | w s => exact word_ten ht b hb
 | nm c k => exact word_ten (nm_word hp ht k) b hb
 | num i => exact itoa_ten i b hb
 | q xs => exact quote_ten xs ht b hb
theorem lin_ok : ∀ (ts : List Tk) (q : Bool), lin q ts → ∀ t ∈ ts, t.ok
 | [], _, _, t, ht => absurd ht List.not_mem_nil
 | x :: ts, q, h, t, ht => by
  have hx : x.ok ∧ ∃ q', lin q' ts := by
   cases q <;> cases x <;> first
    | exact ⟨trivial, _, h⟩
    | exact ⟨h.2.1, _, h.2.2⟩
    | exact h.elim
    | exact absurd h.1 (by decide)
  rcases List.mem_cons.1 ht with rfl | ht
  ·exact hx.1
  ·obtain ⟨q', hq⟩ := hx.2
   exact lin_ok ts q' hq t ht
theorem line_ten {pre : List UInt8} (hp : preOk pre) {y : Wy} (h : y.Ok) (ts : List Tk) (hl : lin false ts) : ∀ b ∈ ts.flatMap (Tk.txt pre y) ++ y.E, b ≠ 10 := by
 intro b hb
 rcases List.mem_append.1 hb with hb | hb
 ·obtain ⟨t, ht, hb⟩ := List.mem_flatMap.1 hb
  exact tk_ten hp h t (lin_ok ts false hl t ht) b hb
 ·obtain ⟨bl, c, e, hbl, _, hc⟩ := h.e
  rw [e] at hb
  rcases List.mem_append.1 hb with hb | hb
  ·exact (blank_no (hbl b hb)).2
  ·exact hc b hb
theorem lines_app : ∀ (l r : List UInt8), (∀ b ∈ l, b ≠ 10) → linesL (l ++ 10 :: r) = l :: linesL r
 | [], r, _ => by rw [List.nil_append, linesL, if_pos rfl]
 | b :: l, r, h => by
  rw [List.cons_append, linesL, if_neg (h b List.mem_cons_self), lines_app l r (fun c hc => h c (List.mem_cons_of_mem _ hc))]
end Go.Proofs.YtcahibbfejomcaaGreatDoor

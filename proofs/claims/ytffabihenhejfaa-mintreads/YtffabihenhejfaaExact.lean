/-
  The Reader's calls over any bytes, with the fault that is met.
-/
import Derived.Test.YtffabihenhejfaaLeadt
namespace Go.Proofs.Ytffabihenhejfaa
open Go.RowKit
set_option linter.unusedVariables false

/-- The number that bytes make. -/
def bval (ds : List Int) : Int := ds.foldl (fun a d => a * 256 + d) 0
theorem bval_snoc (l : List Int) (d : Int) : bval (l ++ [d]) = bval l * 256 + d := by simp [bval, List.foldl_append]

theorem be_bval (n : Nat) : ∀ ds : List Int, ds.length = n → (∀ x ∈ ds, 0 ≤ x ∧ x ≤ 255) → 0 ≤ bval ds ∧ bval ds < (256 : Int) ^ n ∧ ds = Mth.be n (bval ds) := by
  induction n with
  | zero =>
    intro ds hl _
    rw [List.length_eq_zero_iff.1 hl]
    exact ⟨Int.le_refl _, by simp [bval], rfl⟩
  | succ n ih =>
    intro ds hl hb
    have hne : ds ≠ [] := by intro e; rw [e] at hl; simp at hl
    have hsp := List.dropLast_concat_getLast hne
    obtain ⟨h0, h1, h2⟩ := ih ds.dropLast (by rw [List.length_dropLast, hl]; rfl) (fun x hx => hb x (List.dropLast_subset _ hx))
    have hd := hb (ds.getLast hne) (List.getLast_mem hne)
    have hv : bval ds = bval ds.dropLast * 256 + ds.getLast hne := by rw [← bval_snoc, hsp]
    rw [hv]
    refine ⟨by omega, by rw [Int.pow_succ]; omega, ?_⟩
    rw [be_snoc, show (bval ds.dropLast * 256 + ds.getLast hne) / 256 = bval ds.dropLast by omega, show (bval ds.dropLast * 256 + ds.getLast hne) % 256 = ds.getLast hne by omega, ← h2]
    exact hsp.symm

/-- A form, read: the number and what is left; or the fault. -/
def formD : List Int → Except Int (Int × List Int)
  | [] => .error 11
  | x :: t => if x ≤ 247 then .ok (x, t) else if t.length < (x - 247).toNat then .error 11
    else if bval (t.take (x - 247).toNat) ≤ 247 ∨ Mth.sz (bval (t.take (x - 247).toNat)) ≠ (x - 247).toNat then .error 12 else .ok (bval (t.take (x - 247).toNat), t.drop (x - 247).toNat)

theorem formD_cons (x : Int) (t : List Int) : formD (x :: t) = if x ≤ 247 then .ok (x, t) else if t.length < (x - 247).toNat then .error 11
    else if bval (t.take (x - 247).toNat) ≤ 247 ∨ Mth.sz (bval (t.take (x - 247).toNat)) ≠ (x - 247).toNat then .error 12 else .ok (bval (t.take (x - 247).toNat), t.drop (x - 247).toNat) := rfl

theorem formD_cases (xs : List Int) (hb : ∀ x ∈ xs, 0 ≤ x ∧ x ≤ 255) :
    (∃ u rest, formD xs = .ok (u, rest) ∧ xs = Mth.form u ++ rest ∧ 0 ≤ u ∧ u < 18446744073709551616) ∨
    (formD xs = .error 11 ∧ (xs = [] ∨ ∃ (K : Nat) (t : List Int), xs = (247 + (K : Int)) :: t ∧ 1 ≤ K ∧ K ≤ 8 ∧ t.length < K)) ∨
    (formD xs = .error 12 ∧ ∃ (K : Nat) (u : Int) (rest : List Int), xs = (247 + (K : Int)) :: (Mth.be K u ++ rest) ∧ 1 ≤ K ∧ K ≤ 8 ∧ 0 ≤ u ∧ u < (256 : Int) ^ K ∧ (u ≤ 247 ∨ Mth.sz u ≠ K)) := by
  cases xs with
  | nil => exact .inr (.inl ⟨rfl, .inl rfl⟩)
  | cons x t =>
    have hx := hb x List.mem_cons_self
    rw [formD_cons]
    by_cases h1 : x ≤ 247
    · rw [if_pos h1]
      exact .inl ⟨x, t, rfl, by unfold Mth.form; rw [if_pos h1]; rfl, hx.1, by omega⟩
    · rw [if_neg h1]
      generalize hK : (x - 247).toNat = K
      have hxK : x = 247 + (K : Int) := by omega
      by_cases h2 : t.length < K
      · rw [if_pos h2]
        exact .inr (.inl ⟨rfl, .inr ⟨K, t, by rw [hxK], by omega, by omega, h2⟩⟩)
      · rw [if_neg h2]
        obtain ⟨h3, h4, h5⟩ := be_bval K (t.take K) (by rw [List.length_take]; omega) (fun y hy => hb y (List.mem_cons_of_mem _ (List.mem_of_mem_take hy)))
        have ht : t = Mth.be K (bval (t.take K)) ++ t.drop K := by rw [← h5, List.take_append_drop]
        by_cases h6 : bval (t.take K) ≤ 247 ∨ Mth.sz (bval (t.take K)) ≠ K
        · rw [if_pos h6]
          exact .inr (.inr ⟨rfl, K, bval (t.take K), t.drop K, by rw [hxK]; congr 1, by omega, by omega, h3, h4, h6⟩)
        · rw [if_neg h6]
          have h7 : ¬ bval (t.take K) ≤ 247 := fun h => h6 (.inl h)
          have h8 : Mth.sz (bval (t.take K)) = K := Decidable.byContradiction (fun h => h6 (.inr h))
          refine .inl ⟨_, _, rfl, ?_, h3, Int.lt_of_lt_of_le h4 (pow256_le K (by omega))⟩
          unfold Mth.form
          rw [if_neg h7, h8, hxK, List.cons_append, ← ht]

/-- A number that an int holds. -/
def numD (xs : List Int) : Except Int (Int × List Int) :=
  match formD xs with
  | .error e => .error e
  | .ok (u, rest) => if u ≤ 9223372036854775807 then .ok (u, rest) else .error 12
def unfoldI (u : Int) : Int := if u % 2 = 1 then -(u / 2) - 1 else u / 2
def intD (xs : List Int) : Except Int (Int × List Int) :=
  match formD xs with
  | .error e => .error e
  | .ok (u, rest) => .ok (unfoldI u, rest)
def boolD : List Int → Except Int (Int × List Int)
  | [] => .error 11
  | x :: t => if 1 < x then .error 12 else .ok (x, t)
def rawD (n : Int) (xs : List Int) : Except Int (List Int × List Int) := if n < 0 then .error 1 else if (xs.length : Int) < n then .error 11 else .ok (xs.take n.toNat, xs.drop n.toNat)
def bytesD (xs : List Int) : Except Int (List Int × List Int) :=
  match numD xs with
  | .error e => .error e
  | .ok (u, rest) => rawD u rest
def mostD (n : Int) (xs : List Int) : Except Int (Int × List Int) :=
  match numD xs with
  | .error e => .error e
  | .ok (u, rest) => if n < u then .error 2 else .ok (u, rest)

theorem fold_unfold (u : Int) (h0 : 0 ≤ u) (h1 : u < 18446744073709551616) : -9223372036854775808 ≤ unfoldI u ∧ unfoldI u < 9223372036854775808 ∧ fold (unfoldI u) = u := by
  unfold unfoldI
  by_cases h : u % 2 = 1
  · rw [if_pos h]
    refine ⟨by omega, by omega, ?_⟩
    unfold fold
    rw [if_pos (by omega)]
    omega
  · rw [if_neg h]
    refine ⟨by omega, by omega, ?_⟩
    unfold fold
    rw [if_neg (by omega)]
    omega

/-- That fault was met: it is thrown, and the Reader is no longer live. -/
def ThrewF (r : Nat) (flt : Int) (w : World) (e : Ending) (w' : World) : Prop :=
  e = .panicked [{ v := thrownV r, recovered := false }] ∧ Rd w' r (.slice none 0 0) false flt ∧ Kept (fun k => k = r) w w'

theorem ThrewF.behind {r : Nat} {flt : Int} {w w1 w' : World} {e : Ending} (h : ThrewF r flt w1 e w') (hk : Kept (fun k => k = r) w w1) : ThrewF r flt w e w' := ⟨h.1, h.2.1, hk.trans h.2.2⟩

set_option maxRecDepth 100000 in
set_option maxHeartbeats 1000000 in
theorem fail_x (r : Nat) (v : Value) (f e : Int) (w : World) (hr : Rd w r v true f) (he : e ≠ 0) :
    Calls Try.prog 46 #[.pointer (some ⟨r, 0, none⟩), .int .i64 e] w (ThrewF r e w) := by
  obtain ⟨q0, q1, q2, f0, f1, f2, hl⟩ := hr.cells
  have hq : (e == 0) = false := by simp [he]
  have HR := hid_of (hr.fail (e := e))
  have HK : Hid (Kept (fun k => k = r) w (((w.setCell ⟨r, 1, none⟩ (.bool false)).setCell ⟨r, 0, none⟩ (.slice none 0 0)).setCell ⟨r, 2, none⟩ (.int .i64 e))) := ((kept_set _ _ _ _).trans (kept_set _ _ _ _)).trans (kept_set _ _ _ _)
  clear hr he
  go_enter Try.func46, Try.ntmps46
  go_wp2
  exact ⟨rfl, rfl, HR.out, HK.out⟩

set_option maxRecDepth 100000 in
set_option maxHeartbeats 1000000 in
/-- Fail with OK. -/
theorem fail_ok (r : Nat) (w : World) : Calls Try.prog 46 #[.pointer (some ⟨r, 0, none⟩), .int .i64 0] w fun e w' => e = .returned (.tuple #[]) ∧ w' = w := by
  go_enter Try.func46, Try.ntmps46
  go_wp2
  refine body_retv rfl rfl ?_
  exact ⟨rfl, rfl⟩

set_option maxRecDepth 100000 in
set_option maxHeartbeats 1000000 in
/-- Fail of a Reader that is no longer live. -/
theorem fail_dead (r : Nat) (v : Value) (f e : Int) (w : World) (hr : Rd w r v false f) : Calls Try.prog 46 #[.pointer (some ⟨r, 0, none⟩), .int .i64 e] w fun e w' => e = .returned (.tuple #[]) ∧ w' = w := by
  obtain ⟨q0, q1, q2, f0, f1, f2, hl⟩ := hr.cells
  clear hr
  by_cases h0 : e = 0
  · subst h0
    exact fail_ok r w
  · have hq : (e == 0) = false := by simp [h0]
    go_enter Try.func46, Try.ntmps46
    go_wp2
    refine body_retv rfl rfl ?_
    exact ⟨rfl, rfl⟩

set_option maxRecDepth 100000 in
set_option maxHeartbeats 1000000 in
theorem take_bad_x (r g n : Nat) (v : Value) (xs : List Int) (w : World) (f : Int) (hr : Rd w r v true f) (hx : IsR w g v xs) (hn : xs.length < n) (hn' : n ≤ 9223372036854775807) :
    Calls Try.prog 64 #[.pointer (some ⟨r, 0, none⟩), .int .i64 n] w (ThrewF r 11 w) := by
  have HF := hid_of (fail_x r v f 11 w hr (by decide))
  obtain ⟨ao, c, rfl⟩ := hx.shape
  obtain ⟨q0, q1, q2, f0, f1, f2, hl⟩ := hr.cells
  have hnI : (xs.length : Int) < (n : Int) := by omega
  clear hr hx
  go_enter Try.func64, Try.ntmps64
  go_wp2_with fail
  refine HF.out.mono ?_
  rintro e w1 ⟨rfl, h2, h3⟩
  exact ⟨rfl, rfl, h2, h3⟩

set_option maxRecDepth 100000 in
set_option maxHeartbeats 1000000 in
theorem form_none_x (r g : Nat) (v : Value) (w : World) (f : Int) (hr : Rd w r v true f) (hx : IsR w g v []) :
    Calls Try.prog 62 #[.pointer (some ⟨r, 0, none⟩)] w (ThrewF r 11 w) := by
  have HF := hid_of (take_bad_x r g 1 v [] w f hr hx (by simp) (by decide))
  obtain ⟨q0, q1, q2, f0, f1, f2, hl⟩ := hr.cells
  clear hr hx
  go_enter Try.func62, Try.ntmps62
  go_wp2_with fail
  refine HF.out.mono ?_
  rintro e w1 ⟨rfl, h2, h3⟩
  exact ⟨rfl, rfl, h2, h3⟩

set_option maxRecDepth 100000 in
set_option maxHeartbeats 1000000 in
theorem form_cut_x (r g K : Nat) (v : Value) (t : List Int) (w : World) (f : Int) (hr : Rd w r v true f) (hx : IsR w g v ((247 + (K : Int)) :: t)) (hgr : g ≠ r) (hK1 : 1 ≤ K) (hK8 : K ≤ 8) (ht : t.length < K) :
    Calls Try.prog 62 #[.pointer (some ⟨r, 0, none⟩)] w (ThrewF r 11 w) := by
  obtain ⟨q0, q1, q2, f0, f1, f2, hl⟩ := hr.cells
  have HT := hid_of (take_ok r g 1 v _ w f hr hx hgr (by simp))
  have hKI : (K : Int) ≤ 8 := by omega
  have hKI1 : (1 : Int) ≤ (K : Int) := by omega
  clear hr hx
  go_enter Try.func62, Try.ntmps62
  go_wp2_with fail
  refine HT.out.mono ?_
  rintro e w1 ⟨⟨v1, rfl, hb, hbg, _⟩, haf⟩
  obtain ⟨b, o, c, rfl, hc⟩ : ∃ b o c, v1 = .slice (some ⟨b, o, none⟩) 1 c ∧ w1.cell? ⟨b, o, none⟩ = some (.int .u8 (247 + (K : Int))) := by
    rcases hb with ⟨h, _⟩ | ⟨b, o, c, rfl, hc⟩
    · cases h
    · exact ⟨b, o, c, rfl, hc 0 (by simp)⟩
  obtain ⟨v2, hr2, hx2, hk2⟩ := haf
  have hx2' : IsR w1 g v2 t := hx2
  have HT2 := hid_of (take_bad_x r g K v2 t w1 f hr2 hx2' ht (by omega))
  have HK2 := hid_of hk2
  clear HT hb hbg hr2 hx2 hx2' hk2
  go_wp2_with fail
  rw [show (247 + (K : Int) - 247) = (K : Int) from by omega]
  refine HT2.out.mono ?_
  rintro e w3 h3
  obtain ⟨rfl, h2, h3⟩ := h3.behind HK2.out
  exact ⟨rfl, rfl, h2, h3⟩

set_option maxRecDepth 100000 in
set_option maxHeartbeats 2000000 in
/-- form, whose bytes are no form. -/
theorem form_wrong_x (r g : Nat) (v : Value) (u : Int) (K : Nat) (rest : List Int) (w : World) (f : Int) (hr : Rd w r v true f) (hx : IsR w g v ((247 + (K : Int)) :: (Mth.be K u ++ rest))) (hgr : g ≠ r) (hK1 : 1 ≤ K) (hK8 : K ≤ 8) (h0 : 0 ≤ u) (hu : u < (256 : Int) ^ K) (hbad : u ≤ 247 ∨ Mth.sz u ≠ K) :
    Calls Try.prog 62 #[.pointer (some ⟨r, 0, none⟩)] w (ThrewF r 12 w) := by
  obtain ⟨q0, q1, q2, _, _, _, hl⟩ := hr.cells
  have h1 : u < 18446744073709551616 := Int.lt_of_lt_of_le hu (pow256_le K hK8)
  have ht := hid_of (take_ok r g 1 v _ w f hr hx hgr (by simp))
  have HU := hid_of hu
  have HBAD := hid_of hbad
  clear hr hx hu hbad
  have hKI : (K : Int) ≤ 8 := by omega
  have hKI1 : (1 : Int) ≤ (K : Int) := by omega
  go_enter Try.func62, Try.ntmps62
  go_wp2_with fail
  refine ht.out.mono ?_
  rintro e w1 ⟨⟨v1, rfl, hb, hbg, _⟩, haf⟩
  obtain ⟨b, o, c, rfl, hc⟩ : ∃ b o c, v1 = .slice (some ⟨b, o, none⟩) 1 c ∧ w1.cell? ⟨b, o, none⟩ = some (.int .u8 (247 + (K : Int))) := by
    rcases hb with ⟨h, _⟩ | ⟨b, o, c, rfl, hc⟩
    · cases h
    · exact ⟨b, o, c, rfl, hc 0 (by simp)⟩
  obtain ⟨v2, hr2, hx2, hk2⟩ := haf
  have hx2' : IsR w1 g v2 (Mth.be K u ++ rest) := hx2
  have ht2 := take_ok r g K v2 (Mth.be K u ++ rest) w1 f hr2 hx2' hgr (by simp [Mth.be_length])
  rw [List.take_left' (Mth.be_length K u), List.drop_left' (Mth.be_length K u)] at ht2
  have HT2 := hid_of ht2
  have HK2 := hid_of hk2
  clear ht hb hbg hr2 hx2 hx2' hk2 ht2
  go_wp2_with fail
  rw [show (247 + (K : Int) - 247) = (K : Int) from by omega]
  refine HT2.out.mono ?_
  rintro e w3 ⟨⟨v3, rfl, hb3, hbg3, _⟩, haf3⟩
  have HF : Hid (Calls Try.prog 46 #[.pointer (some ⟨r, 0, none⟩), .int .i64 12] w3 (ThrewF r 12 w)) := by
    obtain ⟨v4, h4, h5, h6⟩ := haf3
    refine (fail_x r v4 f 12 w3 h4 (by decide)).mono ?_
    intro e w' h
    exact h.behind (HK2.out.trans h6)
  have hlb := Mth.be_length K u
  obtain ⟨b3, o3, c3, rfl, hc3⟩ : ∃ b o c, v3 = .slice (some ⟨b, o, none⟩) K c ∧ ∀ i, i < K → w3.cell? ⟨b, o + i, none⟩ = some (.int .u8 ((u / (256 : Int) ^ (K - 1 - i)) % 256)) := by
    rcases hb3 with ⟨h, _⟩ | ⟨b, o, c, rfl, hc⟩
    · rw [h] at hlb; simp at hlb; omega
    · rw [hlb] at hc ⊢
      refine ⟨b, o, c, rfl, fun i hi => ?_⟩
      rw [hc i hi, List.getD, Mth.be_get K u i hi]
      rfl
  have HC3 := hid_of hc3
  clear HT2 HK2 hb3 hbg3 haf3 hc3 hc hlb
  go_wp2
  go_loop [5, 28] (fun a i => ∃ j : Nat, j ≤ K ∧ i = .int .i64 j ∧ a = .int .u64 (u / (256 : Int) ^ (K - j))) (fun _ i => K - (intOf i).toNat)
  case atStart =>
    refine ⟨0, Nat.zero_le _, rfl, ?_⟩
    rw [Nat.sub_zero, Int.ediv_eq_zero_of_lt (by omega) HU.out]
  case round =>
    obtain ⟨j, hj, rfl, rfl⟩ := hrel
    by_cases hlt : j < K
    · have hcell := HC3.out j hlt
      have hjI : (j : Int) < (K : Int) := by omega
      have hd := div_le u (K - 1 - j) (by omega)
      have E : bits .or .u64 (IntKind.u64.wrap (u / 256 ^ (K - j) * 256)) (u / 256 ^ (K - 1 - j) % 256) = u / 256 ^ (K - (j + 1)) := by
        rw [show K - j = (K - 1 - j) + 1 by omega, div_step, show K - (j + 1) = K - 1 - j by omega]
        exact or_step _ hd.1 (by omega)
      have HE := hid_of E
      clear hd E
      go_wp2
      refine ⟨⟨j + 1, by omega, by go_num, ?_⟩, ?_⟩
      · rw [HE.out]
      · simp [intOf]; omega
    · obtain rfl : j = K := by omega
      have e : u / (256 : Int) ^ (j - j) = u := by rw [Nat.sub_self]; simp
      rw [e]
      by_cases h247 : u ≤ 247
      · have hd1 : decide (u ≤ 247) = true := by simp; omega
        clear e hlt hj
        go_wp2_with fail
        refine HF.out.mono ?_
        rintro e w4 ⟨rfl, h2, h3⟩
        exact ⟨rfl, rfl, h2, h3⟩
      · have hs := size_any u w3 (by omega) h1
        have hne : Mth.sz u ≠ j := by rcases HBAD.out with h | h; exact absurd h h247; exact h
        have hneI : ((Mth.sz u : Int) == (j : Int)) = false := by simp; omega
        have hneN : ((Mth.sz u : Int) != (j : Int)) = true := by simp; omega
        have HS := hid_of hs
        have hd1 : decide (u ≤ 247) = false := by simp; omega
        have hsz8 : (Mth.sz u : Int) ≤ 8 := by have := Mth.sz_le u; omega
        generalize Mth.sz u = z at *
        clear hs e hlt hj hne
        go_wp2_with fail
        refine HS.out.mono ?_
        rintro e w4 ⟨rfl, rfl⟩
        go_wp2_with fail
        refine HF.out.mono ?_
        rintro e w5 ⟨rfl, h2, h3⟩
        exact ⟨rfl, rfl, h2, h3⟩

/-- What a call of a Reader leaves: it tells what is to be told, or throws the fault. -/
def Outs {α : Type} (d : Except Int (α × List Int)) (r g : Nat) (f : Int) (w : World) (told : α → Ending → World → Prop) (e : Ending) (w' : World) : Prop :=
  match d with
  | .ok (a, rest) => told a e w' ∧ After w w' r g f rest
  | .error flt => ThrewF r flt w e w'

/-- form, over any bytes. -/
theorem form_x (r g : Nat) (v : Value) (xs : List Int) (w : World) (f : Int) (hr : Rd w r v true f) (hx : IsR w g v xs) (hgr : g ≠ r) (hb : ∀ x ∈ xs, 0 ≤ x ∧ x ≤ 255) :
    Calls Try.prog 62 #[.pointer (some ⟨r, 0, none⟩)] w (Outs (formD xs) r g f w fun u e w' => e = .returned (.int .u64 u) ∧ 0 ≤ u ∧ u < 18446744073709551616) := by
  rcases formD_cases xs hb with ⟨u, rest, h, rfl, h0, h1⟩ | ⟨h, rfl | ⟨K, t, rfl, h1, h8, h2⟩⟩ | ⟨h, K, u, rest, rfl, h1, h8, h3, h4, h5⟩
  · rw [h]
    refine (rdform r g v u rest w f hr hx hgr h0 h1).mono ?_
    rintro e w' ⟨rfl, ha⟩
    exact ⟨⟨rfl, h0, h1⟩, ha⟩
  · rw [h]; exact form_none_x r g v w f hr hx
  · rw [h]; exact form_cut_x r g K v t w f hr hx hgr h1 h8 h2
  · rw [h]; exact form_wrong_x r g v u K rest w f hr hx hgr h1 h8 h3 h4 h5
end Go.Proofs.Ytffabihenhejfaa

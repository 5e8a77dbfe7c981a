/-
  TMc: Mc.
-/
import Derived.Test.YtgoabnehdmdikaaGreatDoorTMb
import Derived.LaidEqlPtr
import Derived.Deep.RegionLaw
import Derived.Laws.IdiomStrings
namespace Go.Proofs.YtgoabnehdmdikaaGreatDoor
open Go.RowKit
set_option linter.unusedVariables false

theorem be_of (n : Nat) : ∀ ds : List Int, ds.length = n → (∀ x ∈ ds, 0 ≤ x ∧ x ≤ 255) → ∃ u : Int, 0 ≤ u ∧ u < (256 : Int) ^ n ∧ ds = Mth.be n u := by
  induction n with
  | zero =>
    intro ds hl _
    refine ⟨0, Int.le_refl _, by simp, ?_⟩
    rw [List.length_eq_zero_iff.1 hl]
    rfl
  | succ n ih =>
    intro ds hl hb
    have hne : ds ≠ [] := by intro e; rw [e] at hl; simp at hl
    have hsp := List.dropLast_concat_getLast hne
    obtain ⟨u, h0, h1, h2⟩ := ih ds.dropLast (by rw [List.length_dropLast, hl]; rfl) (fun x hx => hb x (List.dropLast_subset _ hx))
    have hd := hb (ds.getLast hne) (List.getLast_mem hne)
    refine ⟨u * 256 + ds.getLast hne, by omega, ?_, ?_⟩
    · rw [Int.pow_succ]
      omega
    · rw [be_snoc, show (u * 256 + ds.getLast hne) / 256 = u by omega, show (u * 256 + ds.getLast hne) % 256 = ds.getLast hne by omega, ← h2]
      exact hsp.symm

theorem fold_of (u : Int) (h0 : 0 ≤ u) (h1 : u < 18446744073709551616) : ∃ n : Int, -9223372036854775808 ≤ n ∧ n < 9223372036854775808 ∧ fold n = u := by
  by_cases h : u % 2 = 0
  · refine ⟨u / 2, by omega, by omega, ?_⟩
    unfold fold
    rw [if_neg (by omega)]
    omega
  · refine ⟨-(u / 2) - 1, by omega, by omega, ?_⟩
    unfold fold
    rw [if_pos (by omega)]
    omega

theorem pow256_le (K : Nat) (h : K ≤ 8) : (256 : Int) ^ K ≤ 18446744073709551616 := by
  have : K = 0 ∨ K = 1 ∨ K = 2 ∨ K = 3 ∨ K = 4 ∨ K = 5 ∨ K = 6 ∨ K = 7 ∨ K = 8 := by omega
  rcases this with rfl | rfl | rfl | rfl | rfl | rfl | rfl | rfl | rfl <;> decide

/-- The bytes begin with a form. -/
def IsForm (xs : List Int) : Prop := ∃ (u : Int) (rest : List Int), xs = Mth.form u ++ rest ∧ 0 ≤ u ∧ u < 18446744073709551616

/-- Bytes that do not begin with a form: why. -/
theorem no_form (xs : List Int) (hb : ∀ x ∈ xs, 0 ≤ x ∧ x ≤ 255) (h : ¬ IsForm xs) :
    xs = [] ∨ ∃ (K : Nat) (t : List Int), xs = (247 + (K : Int)) :: t ∧ 1 ≤ K ∧ K ≤ 8 ∧ (t.length < K ∨ ∃ (u : Int) (rest : List Int), t = Mth.be K u ++ rest ∧ 0 ≤ u ∧ u < (256 : Int) ^ K ∧ (u ≤ 247 ∨ Mth.sz u ≠ K)) := by
  cases xs with
  | nil => exact .inl rfl
  | cons x t =>
    right
    have hx := hb x List.mem_cons_self
    by_cases h1 : x ≤ 247
    · exact absurd ⟨x, t, by unfold Mth.form; rw [if_pos h1]; rfl, hx.1, by omega⟩ h
    · refine ⟨(x - 247).toNat, t, by rw [show ((x - 247).toNat : Int) = x - 247 by omega]; congr 1; omega, by omega, by omega, ?_⟩
      generalize hK : (x - 247).toNat = K
      have hxK : x = 247 + (K : Int) := by omega
      by_cases h2 : t.length < K
      · exact .inl h2
      · right
        obtain ⟨u, h3, h4, h5⟩ := be_of K (t.take K) (by rw [List.length_take]; omega) (fun y hy => hb y (List.mem_cons_of_mem _ (List.mem_of_mem_take hy)))
        refine ⟨u, t.drop K, by rw [← h5, List.take_append_drop], h3, h4, ?_⟩
        by_cases h6 : u ≤ 247
        · exact .inl h6
        · right
          intro h7
          refine h ⟨u, t.drop K, ?_, h3, Int.lt_of_lt_of_le h4 (pow256_le K (by omega))⟩
          unfold Mth.form
          rw [if_neg h6, h7, hxK, List.cons_append, ← h5, List.take_append_drop]
end Go.Proofs.YtgoabnehdmdikaaGreatDoor

namespace Go.Proofs.YtgoabnehdmdikaaGreatDoor
open Go.RowKit
set_option linter.unusedVariables false

/-- What is thrown for a Reader. -/
def thrownV (r : Nat) : Value := .iface 287 (.agg #[.pointer (some ⟨r, 0, none⟩)])
/-- A fault was met: it is thrown, and the Reader is no longer live. -/
def Threw (r : Nat) (w : World) (e : Ending) (w' : World) : Prop :=
  ∃ flt : Int, flt ≠ 0 ∧ e = .panicked [{ v := thrownV r, recovered := false }] ∧ Rd w' r (.slice none 0 0) false flt ∧ Kept (fun k => k = r) w w'

theorem Rd.fail {w : World} {r : Nat} {v : Value} {f e : Int} (h : Rd w r v true f) : Rd (((w.setCell ⟨r, 1, none⟩ (.bool false)).setCell ⟨r, 0, none⟩ (.slice none 0 0)).setCell ⟨r, 2, none⟩ (.int .i64 e)) r (.slice none 0 0) false e := by
  unfold Rd
  rw [set_block _ _ _ _ _ _ (set_block _ _ _ _ _ _ (set_block _ _ _ _ _ _ h _) _)]
  rfl

set_option maxRecDepth 100000 in
set_option maxHeartbeats 1000000 in
theorem fail_any (r : Nat) (v : Value) (f e : Int) (w : World) (hr : Rd w r v true f) (he : e ≠ 0) :
    Calls Tryz.prog 201 #[.pointer (some ⟨r, 0, none⟩), .int .i64 e] w (Threw r w) := by
  obtain ⟨q0, q1, q2, f0, f1, f2, hl⟩ := hr.cells
  have hq : (e == 0) = false := by simp [he]
  have HR := hid_of (hr.fail (e := e))
  have HK : Hid (Kept (fun k => k = r) w (((w.setCell ⟨r, 1, none⟩ (.bool false)).setCell ⟨r, 0, none⟩ (.slice none 0 0)).setCell ⟨r, 2, none⟩ (.int .i64 e))) := ((kept_set _ _ _ _).trans (kept_set _ _ _ _)).trans (kept_set _ _ _ _)
  have HE := hid_of he
  clear hr he
  go_enter Tryz.func201, Tryz.ntmps201
  go_wp2
  exact ⟨rfl, e, HE.out, rfl, HR.out, HK.out⟩

theorem Threw.behind {r : Nat} {w w1 w' : World} {e : Ending} (h : Threw r w1 e w') (hk : Kept (fun k => k = r) w w1) : Threw r w e w' := by
  obtain ⟨flt, h0, h1, h2, h3⟩ := h
  exact ⟨flt, h0, h1, h2, hk.trans h3⟩

set_option maxRecDepth 100000 in
set_option maxHeartbeats 1000000 in
/-- take of more than is left. -/
theorem take_bad (r g n : Nat) (v : Value) (xs : List Int) (w : World) (f : Int) (hr : Rd w r v true f) (hx : IsR w g v xs) (hn : xs.length < n) (hn' : n ≤ 9223372036854775807) :
    Calls Tryz.prog 210 #[.pointer (some ⟨r, 0, none⟩), .int .i64 n] w (Threw r w) := by
  have HF := hid_of (fail_any r v f 11 w hr (by decide))
  obtain ⟨ao, c, rfl⟩ := hx.shape
  obtain ⟨q0, q1, q2, f0, f1, f2, hl⟩ := hr.cells
  have hnI : (xs.length : Int) < (n : Int) := by omega
  clear hr hx
  go_enter Tryz.func210, Tryz.ntmps210
  go_wp2_with fail
  refine HF.out.mono ?_
  rintro e w1 ⟨flt, h0, rfl, h2, h3⟩
  exact ⟨rfl, flt, h0, rfl, h2, h3⟩

set_option maxRecDepth 100000 in
set_option maxHeartbeats 1000000 in
/-- form, where nothing is left. -/
theorem form_none (r g : Nat) (v : Value) (w : World) (f : Int) (hr : Rd w r v true f) (hx : IsR w g v []) :
    Calls Tryz.prog 200 #[.pointer (some ⟨r, 0, none⟩)] w (Threw r w) := by
  have HF := hid_of (take_bad r g 1 v [] w f hr hx (by simp) (by decide))
  obtain ⟨q0, q1, q2, f0, f1, f2, hl⟩ := hr.cells
  clear hr hx
  go_enter Tryz.func200, Tryz.ntmps200
  go_wp2_with fail
  refine HF.out.mono ?_
  rintro e w1 ⟨flt, h0, rfl, h2, h3⟩
  exact ⟨rfl, flt, h0, rfl, h2, h3⟩

set_option maxRecDepth 100000 in
set_option maxHeartbeats 1000000 in
/-- form, whose bytes are cut. -/
theorem form_cut (r g K : Nat) (v : Value) (t : List Int) (w : World) (f : Int) (hr : Rd w r v true f) (hx : IsR w g v ((247 + (K : Int)) :: t)) (hgr : g ≠ r) (hK1 : 1 ≤ K) (hK8 : K ≤ 8) (ht : t.length < K) :
    Calls Tryz.prog 200 #[.pointer (some ⟨r, 0, none⟩)] w (Threw r w) := by
  obtain ⟨q0, q1, q2, f0, f1, f2, hl⟩ := hr.cells
  have HT := hid_of (take_ok r g 1 v _ w f hr hx hgr (by simp))
  have hKI : (K : Int) ≤ 8 := by omega
  have hKI1 : (1 : Int) ≤ (K : Int) := by omega
  clear hr hx
  go_enter Tryz.func200, Tryz.ntmps200
  go_wp2_with fail
  refine HT.out.mono ?_
  rintro e w1 ⟨⟨v1, rfl, hb, hbg, _⟩, haf⟩
  obtain ⟨b, o, c, rfl, hc⟩ : ∃ b o c, v1 = .slice (some ⟨b, o, none⟩) 1 c ∧ w1.cell? ⟨b, o, none⟩ = some (.int .u8 (247 + (K : Int))) := by
    rcases hb with ⟨h, _⟩ | ⟨b, o, c, rfl, hc⟩
    · cases h
    · exact ⟨b, o, c, rfl, hc 0 (by simp)⟩
  obtain ⟨v2, hr2, hx2, hk2⟩ := haf
  have hx2' : IsR w1 g v2 t := hx2
  have HT2 := hid_of (take_bad r g K v2 t w1 f hr2 hx2' ht (by omega))
  have HK2 := hid_of hk2
  clear HT hb hbg hr2 hx2 hx2' hk2
  go_wp2_with fail
  rw [show (247 + (K : Int) - 247) = (K : Int) from by omega]
  refine HT2.out.mono ?_
  rintro e w3 h3
  obtain ⟨flt, h0, rfl, h2, h3⟩ := h3.behind HK2.out
  exact ⟨rfl, flt, h0, rfl, h2, h3⟩
end Go.Proofs.YtgoabnehdmdikaaGreatDoor

namespace Go.Proofs.YtgoabnehdmdikaaGreatDoor
open Go.RowKit
set_option linter.unusedVariables false

set_option maxRecDepth 100000 in
set_option maxHeartbeats 2000000 in
/-- form, whose bytes are no form. -/
theorem form_wrong (r g : Nat) (v : Value) (u : Int) (K : Nat) (rest : List Int) (w : World) (f : Int) (hr : Rd w r v true f) (hx : IsR w g v ((247 + (K : Int)) :: (Mth.be K u ++ rest))) (hgr : g ≠ r) (hK1 : 1 ≤ K) (hK8 : K ≤ 8) (h0 : 0 ≤ u) (hu : u < (256 : Int) ^ K) (hbad : u ≤ 247 ∨ Mth.sz u ≠ K) :
    Calls Tryz.prog 200 #[.pointer (some ⟨r, 0, none⟩)] w (Threw r w) := by
  obtain ⟨q0, q1, q2, _, _, _, hl⟩ := hr.cells
  have h1 : u < 18446744073709551616 := Int.lt_of_lt_of_le hu (pow256_le K hK8)
  have ht := hid_of (take_ok r g 1 v _ w f hr hx hgr (by simp))
  have HU := hid_of hu
  have HBAD := hid_of hbad
  clear hr hx hu hbad
  have hKI : (K : Int) ≤ 8 := by omega
  have hKI1 : (1 : Int) ≤ (K : Int) := by omega
  go_enter Tryz.func200, Tryz.ntmps200
  go_wp2_with fail
  refine ht.out.mono ?_
  rintro e w1 ⟨⟨v1, rfl, hb, hbg, _⟩, haf⟩
  obtain ⟨b, o, c, rfl, hc⟩ : ∃ b o c, v1 = .slice (some ⟨b, o, none⟩) 1 c ∧ w1.cell? ⟨b, o, none⟩ = some (.int .u8 (247 + (K : Int))) := by
    rcases hb with ⟨h, _⟩ | ⟨b, o, c, rfl, hc⟩
    · cases h
    · exact ⟨b, o, c, rfl, hc 0 (by simp)⟩
  obtain ⟨v2, hr2, hx2, hk2⟩ := haf
  have hx2' : IsR w1 g v2 (Mth.be K u ++ rest) := hx2
  have ht2 := take_ok r g K v2 (Mth.be K u ++ rest) w1 f hr2 hx2' hgr (by simp [Mth.be_length])
  rw [List.take_left' (Mth.be_length K u), List.drop_left' (Mth.be_length K u)] at ht2
  have HT2 := hid_of ht2
  have HK2 := hid_of hk2
  clear ht hb hbg hr2 hx2 hx2' hk2 ht2
  go_wp2_with fail
  rw [show (247 + (K : Int) - 247) = (K : Int) from by omega]
  refine HT2.out.mono ?_
  rintro e w3 ⟨⟨v3, rfl, hb3, hbg3, _⟩, haf3⟩
  have HF : Hid (Calls Tryz.prog 201 #[.pointer (some ⟨r, 0, none⟩), .int .i64 12] w3 (Threw r w)) := by
    obtain ⟨v4, h4, h5, h6⟩ := haf3
    refine (fail_any r v4 f 12 w3 h4 (by decide)).mono ?_
    intro e w' h
    exact h.behind (HK2.out.trans h6)
  have hlb := Mth.be_length K u
  obtain ⟨b3, o3, c3, rfl, hc3⟩ : ∃ b o c, v3 = .slice (some ⟨b, o, none⟩) K c ∧ ∀ i, i < K → w3.cell? ⟨b, o + i, none⟩ = some (.int .u8 ((u / (256 : Int) ^ (K - 1 - i)) % 256)) := by
    rcases hb3 with ⟨h, _⟩ | ⟨b, o, c, rfl, hc⟩
    · rw [h] at hlb; simp at hlb; omega
    · rw [hlb] at hc ⊢
      refine ⟨b, o, c, rfl, fun i hi => ?_⟩
      rw [hc i hi, List.getD, Mth.be_get K u i hi]
      rfl
  have HC3 := hid_of hc3
  clear HT2 HK2 hb3 hbg3 haf3 hc3 hc hlb
  go_wp2
  go_loop [5, 28] (fun a i => ∃ j : Nat, j ≤ K ∧ i = .int .i64 j ∧ a = .int .u64 (u / (256 : Int) ^ (K - j))) (fun _ i => K - (intOf i).toNat)
  case atStart =>
    refine ⟨0, Nat.zero_le _, rfl, ?_⟩
    rw [Nat.sub_zero, Int.ediv_eq_zero_of_lt (by omega) HU.out]
  case round =>
    obtain ⟨j, hj, rfl, rfl⟩ := hrel
    by_cases hlt : j < K
    · have hcell := HC3.out j hlt
      have hjI : (j : Int) < (K : Int) := by omega
      have hd := div_le u (K - 1 - j) (by omega)
      have E : bits .or .u64 (IntKind.u64.wrap (u / 256 ^ (K - j) * 256)) (u / 256 ^ (K - 1 - j) % 256) = u / 256 ^ (K - (j + 1)) := by
        rw [show K - j = (K - 1 - j) + 1 by omega, div_step, show K - (j + 1) = K - 1 - j by omega]
        exact or_step _ hd.1 (by omega)
      have HE := hid_of E
      clear hd E
      go_wp2
      refine ⟨⟨j + 1, by omega, by go_num, ?_⟩, ?_⟩
      · rw [HE.out]
      · simp [intOf]; omega
    · obtain rfl : j = K := by omega
      have e : u / (256 : Int) ^ (j - j) = u := by rw [Nat.sub_self]; simp
      rw [e]
      by_cases h247 : u ≤ 247
      · have hd1 : decide (u ≤ 247) = true := by simp; omega
        clear e hlt hj
        go_wp2_with fail
        refine HF.out.mono ?_
        rintro e w4 ⟨flt, h0, rfl, h2, h3⟩
        exact ⟨rfl, flt, h0, rfl, h2, h3⟩
      · have hs := size_any u w3 (by omega) h1
        have hne : Mth.sz u ≠ j := by rcases HBAD.out with h | h; exact absurd h h247; exact h
        have hneI : ((Mth.sz u : Int) == (j : Int)) = false := by simp; omega
        have hneN : ((Mth.sz u : Int) != (j : Int)) = true := by simp; omega
        have HS := hid_of hs
        have hd1 : decide (u ≤ 247) = false := by simp; omega
        have hsz8 : (Mth.sz u : Int) ≤ 8 := by have := Mth.sz_le u; omega
        generalize Mth.sz u = z at *
        clear hs e hlt hj hne
        go_wp2_with fail
        refine HS.out.mono ?_
        rintro e w4 ⟨rfl, rfl⟩
        go_wp2_with fail
        refine HF.out.mono ?_
        rintro e w5 ⟨flt, h0, rfl, h2, h3⟩
        exact ⟨rfl, flt, h0, rfl, h2, h3⟩

/-- form over any bytes. -/
theorem form_any (r g : Nat) (v : Value) (xs : List Int) (w : World) (f : Int) (hr : Rd w r v true f) (hx : IsR w g v xs) (hgr : g ≠ r) (hb : ∀ x ∈ xs, 0 ≤ x ∧ x ≤ 255) (h : ¬ IsForm xs) :
    Calls Tryz.prog 200 #[.pointer (some ⟨r, 0, none⟩)] w (Threw r w) := by
  rcases no_form xs hb h with rfl | ⟨K, t, rfl, h1, h8, h2 | ⟨u, rest, rfl, h3, h4, h5⟩⟩
  · exact form_none r g v w f hr hx
  · exact form_cut r g K v t w f hr hx hgr h1 h8 h2
  · exact form_wrong r g v u K rest w f hr hx hgr h1 h8 h3 h4 h5
end Go.Proofs.YtgoabnehdmdikaaGreatDoor

namespace Go.Proofs.YtgoabnehdmdikaaGreatDoor
open Go.RowKit
set_option linter.unusedVariables false

set_option maxRecDepth 100000 in
set_option maxHeartbeats 1000000 in
/-- Num, where form throws. -/
theorem num_throw (r : Nat) (w w0 : World) (hF : Calls Tryz.prog 200 #[.pointer (some ⟨r, 0, none⟩)] w (Threw r w0)) : Calls Tryz.prog 177 #[.pointer (some ⟨r, 0, none⟩)] w (Threw r w0) := by
  have HF := hid_of hF
  clear hF
  go_enter Tryz.func177, Tryz.ntmps177
  go_wp2_with fail
  refine HF.out.mono ?_
  rintro e w1 ⟨flt, h0, rfl, h2, h3⟩
  exact ⟨rfl, flt, h0, rfl, h2, h3⟩

set_option maxRecDepth 100000 in
set_option maxHeartbeats 1000000 in
/-- Num, of a number that no int holds. -/
theorem num_big (r g : Nat) (v : Value) (u : Int) (rest : List Int) (w : World) (f : Int) (hr : Rd w r v true f) (hx : IsR w g v (Mth.form u ++ rest)) (hgr : g ≠ r) (h0 : 9223372036854775807 < u) (h1 : u < 18446744073709551616) :
    Calls Tryz.prog 177 #[.pointer (some ⟨r, 0, none⟩)] w (Threw r w) := by
  have hf := hid_of (rdform r g v u rest w f hr hx hgr (by omega) (by omega))
  clear hr hx
  go_enter Tryz.func177, Tryz.ntmps177
  go_wp2_with fail
  refine hf.out.mono ?_
  rintro e w1 ⟨rfl, v1, a1, a2, a3⟩
  have HF := hid_of (fail_any r v1 f 12 w1 a1 (by decide))
  have HK := hid_of a3
  clear hf a1 a2 a3
  go_wp2_with fail
  refine HF.out.mono ?_
  rintro e w2 h
  obtain ⟨flt, h0, rfl, h2, h3⟩ := h.behind HK.out
  exact ⟨rfl, flt, h0, rfl, h2, h3⟩

/-- Num over any bytes. -/
theorem num_any (r g : Nat) (v : Value) (xs : List Int) (w : World) (f : Int) (hr : Rd w r v true f) (hx : IsR w g v xs) (hgr : g ≠ r) (hb : ∀ x ∈ xs, 0 ≤ x ∧ x ≤ 255) :
    Calls Tryz.prog 177 #[.pointer (some ⟨r, 0, none⟩)] w fun e w' => (∃ (u : Int) (rest : List Int), xs = Mth.form u ++ rest ∧ 0 ≤ u ∧ u ≤ 9223372036854775807 ∧ e = .returned (.int .i64 u) ∧ After w w' r g f rest) ∨ Threw r w e w' := by
  by_cases h : IsForm xs
  · obtain ⟨u, rest, rfl, h0, h1⟩ := h
    by_cases h2 : u ≤ 9223372036854775807
    · refine (rnum r g v u rest w f hr hx hgr h0 h2).mono ?_
      rintro e w' ⟨rfl, ha⟩
      exact .inl ⟨u, rest, rfl, h0, h2, rfl, ha⟩
    · exact (num_big r g v u rest w f hr hx hgr (by omega) h1).mono (fun e w' h => .inr h)
  · exact (num_throw r w w (form_any r g v xs w f hr hx hgr hb h)).mono (fun e w' h => .inr h)

end Go.Proofs.YtgoabnehdmdikaaGreatDoor

namespace Go.Proofs.YtgoabnehdmdikaaGreatDoor
open Go.RowKit
set_option linter.unusedVariables false

theorem assert_thrown (v : Value) (w : World) : (Instr.typeAssert (.iface 287 v) 20 287 true).run Tryz.prog w = .ok (.tuple #[v, .bool true]) w := by kernel_rfl

theorem Tryz.info284 : (Tryz.prog.info? 284).map (·.size) = some 3 := by kernel_rfl

theorem same_ptr (a : Addr) (w : World) : (binOp .eql 248 (.pointer (some a)) (.pointer (some a))).run Tryz.prog w = .ok (.bool true) w := by
  have h := Tryz.info284
  cases hj : Tryz.prog.info? 284 with
  | none => rw [hj] at h; cases h
  | some j => exact run_eql_ptr_same w a Tryz.underlying248 hj

/-- What the function that is handed to Read leaves: it returns, or throws its Reader's fault. -/
def LedAny (r p : Nat) (Q : Nat → World → Prop) (Q2 : World → Prop) (e : Ending) (w' : World) : Prop :=
  (e = .returned (.tuple #[]) ∧ ∃ n, Led r p n 0 w' ∧ Q n w') ∨
  ∃ flt : Int, flt ≠ 0 ∧ e = .panicked [{ v := thrownV r, recovered := false }] ∧ Rd w' r (.slice none 0 0) false flt ∧ w'.cell? ⟨p, 0, none⟩ = some (.pointer (some ⟨r, 0, none⟩)) ∧ Q2 w'

end Go.Proofs.YtgoabnehdmdikaaGreatDoor

namespace Go.Proofs.YtgoabnehdmdikaaGreatDoor
open Go.RowKit
set_option linter.unusedVariables false

/-- The number that bytes make. -/
def bval (ds : List Int) : Int := ds.foldl (fun a d => a * 256 + d) 0
theorem bval_snoc (l : List Int) (d : Int) : bval (l ++ [d]) = bval l * 256 + d := by simp [bval, List.foldl_append]

theorem be_bval (n : Nat) : ∀ ds : List Int, ds.length = n → (∀ x ∈ ds, 0 ≤ x ∧ x ≤ 255) → 0 ≤ bval ds ∧ bval ds < (256 : Int) ^ n ∧ ds = Mth.be n (bval ds) := by
  induction n with
  | zero =>
    intro ds hl _
    rw [List.length_eq_zero_iff.1 hl]
    exact ⟨Int.le_refl _, by simp [bval], rfl⟩
  | succ n ih =>
    intro ds hl hb
    have hne : ds ≠ [] := by intro e; rw [e] at hl; simp at hl
    have hsp := List.dropLast_concat_getLast hne
    obtain ⟨h0, h1, h2⟩ := ih ds.dropLast (by rw [List.length_dropLast, hl]; rfl) (fun x hx => hb x (List.dropLast_subset _ hx))
    have hd := hb (ds.getLast hne) (List.getLast_mem hne)
    have hv : bval ds = bval ds.dropLast * 256 + ds.getLast hne := by rw [← bval_snoc, hsp]
    rw [hv]
    refine ⟨by omega, by rw [Int.pow_succ]; omega, ?_⟩
    rw [be_snoc, show (bval ds.dropLast * 256 + ds.getLast hne) / 256 = bval ds.dropLast by omega, show (bval ds.dropLast * 256 + ds.getLast hne) % 256 = ds.getLast hne by omega, ← h2]
    exact hsp.symm

/-- A form, read: the number and what is left; or the fault. -/
def formD : List Int → Except Int (Int × List Int)
  | [] => .error 11
  | x :: t => if x ≤ 247 then .ok (x, t) else if t.length < (x - 247).toNat then .error 11
    else if bval (t.take (x - 247).toNat) ≤ 247 ∨ Mth.sz (bval (t.take (x - 247).toNat)) ≠ (x - 247).toNat then .error 12 else .ok (bval (t.take (x - 247).toNat), t.drop (x - 247).toNat)

theorem formD_cons (x : Int) (t : List Int) : formD (x :: t) = if x ≤ 247 then .ok (x, t) else if t.length < (x - 247).toNat then .error 11
    else if bval (t.take (x - 247).toNat) ≤ 247 ∨ Mth.sz (bval (t.take (x - 247).toNat)) ≠ (x - 247).toNat then .error 12 else .ok (bval (t.take (x - 247).toNat), t.drop (x - 247).toNat) := rfl

theorem formD_cases (xs : List Int) (hb : ∀ x ∈ xs, 0 ≤ x ∧ x ≤ 255) :
    (∃ u rest, formD xs = .ok (u, rest) ∧ xs = Mth.form u ++ rest ∧ 0 ≤ u ∧ u < 18446744073709551616) ∨
    (formD xs = .error 11 ∧ (xs = [] ∨ ∃ (K : Nat) (t : List Int), xs = (247 + (K : Int)) :: t ∧ 1 ≤ K ∧ K ≤ 8 ∧ t.length < K)) ∨
    (formD xs = .error 12 ∧ ∃ (K : Nat) (u : Int) (rest : List Int), xs = (247 + (K : Int)) :: (Mth.be K u ++ rest) ∧ 1 ≤ K ∧ K ≤ 8 ∧ 0 ≤ u ∧ u < (256 : Int) ^ K ∧ (u ≤ 247 ∨ Mth.sz u ≠ K)) := by
  cases xs with
  | nil => exact .inr (.inl ⟨rfl, .inl rfl⟩)
  | cons x t =>
    have hx := hb x List.mem_cons_self
    rw [formD_cons]
    by_cases h1 : x ≤ 247
    · rw [if_pos h1]
      exact .inl ⟨x, t, rfl, by unfold Mth.form; rw [if_pos h1]; rfl, hx.1, by omega⟩
    · rw [if_neg h1]
      generalize hK : (x - 247).toNat = K
      have hxK : x = 247 + (K : Int) := by omega
      by_cases h2 : t.length < K
      · rw [if_pos h2]
        exact .inr (.inl ⟨rfl, .inr ⟨K, t, by rw [hxK], by omega, by omega, h2⟩⟩)
      · rw [if_neg h2]
        obtain ⟨h3, h4, h5⟩ := be_bval K (t.take K) (by rw [List.length_take]; omega) (fun y hy => hb y (List.mem_cons_of_mem _ (List.mem_of_mem_take hy)))
        have ht : t = Mth.be K (bval (t.take K)) ++ t.drop K := by rw [← h5, List.take_append_drop]
        by_cases h6 : bval (t.take K) ≤ 247 ∨ Mth.sz (bval (t.take K)) ≠ K
        · rw [if_pos h6]
          exact .inr (.inr ⟨rfl, K, bval (t.take K), t.drop K, by rw [hxK]; congr 1, by omega, by omega, h3, h4, h6⟩)
        · rw [if_neg h6]
          have h7 : ¬ bval (t.take K) ≤ 247 := fun h => h6 (.inl h)
          have h8 : Mth.sz (bval (t.take K)) = K := Decidable.byContradiction (fun h => h6 (.inr h))
          refine .inl ⟨_, _, rfl, ?_, h3, Int.lt_of_lt_of_le h4 (pow256_le K (by omega))⟩
          unfold Mth.form
          rw [if_neg h7, h8, hxK, List.cons_append, ← ht]

/-- A number that an int holds. -/
def numD (xs : List Int) : Except Int (Int × List Int) :=
  match formD xs with
  | .error e => .error e
  | .ok (u, rest) => if u ≤ 9223372036854775807 then .ok (u, rest) else .error 12
def unfoldI (u : Int) : Int := if u % 2 = 1 then -(u / 2) - 1 else u / 2
def intD (xs : List Int) : Except Int (Int × List Int) :=
  match formD xs with
  | .error e => .error e
  | .ok (u, rest) => .ok (unfoldI u, rest)
def boolD : List Int → Except Int (Int × List Int)
  | [] => .error 11
  | x :: t => if 1 < x then .error 12 else .ok (x, t)
def rawD (n : Int) (xs : List Int) : Except Int (List Int × List Int) := if n < 0 then .error 1 else if (xs.length : Int) < n then .error 11 else .ok (xs.take n.toNat, xs.drop n.toNat)
def bytesD (xs : List Int) : Except Int (List Int × List Int) :=
  match numD xs with
  | .error e => .error e
  | .ok (u, rest) => rawD u rest
def mostD (n : Int) (xs : List Int) : Except Int (Int × List Int) :=
  match numD xs with
  | .error e => .error e
  | .ok (u, rest) => if n < u then .error 2 else .ok (u, rest)

theorem fold_unfold (u : Int) (h0 : 0 ≤ u) (h1 : u < 18446744073709551616) : -9223372036854775808 ≤ unfoldI u ∧ unfoldI u < 9223372036854775808 ∧ fold (unfoldI u) = u := by
  unfold unfoldI
  by_cases h : u % 2 = 1
  · rw [if_pos h]
    refine ⟨by omega, by omega, ?_⟩
    unfold fold
    rw [if_pos (by omega)]
    omega
  · rw [if_neg h]
    refine ⟨by omega, by omega, ?_⟩
    unfold fold
    rw [if_neg (by omega)]
    omega

/-- That fault was met: it is thrown, and the Reader is no longer live. -/
def ThrewF (r : Nat) (flt : Int) (w : World) (e : Ending) (w' : World) : Prop :=
  e = .panicked [{ v := thrownV r, recovered := false }] ∧ Rd w' r (.slice none 0 0) false flt ∧ Kept (fun k => k = r) w w'

theorem ThrewF.behind {r : Nat} {flt : Int} {w w1 w' : World} {e : Ending} (h : ThrewF r flt w1 e w') (hk : Kept (fun k => k = r) w w1) : ThrewF r flt w e w' := ⟨h.1, h.2.1, hk.trans h.2.2⟩

set_option maxRecDepth 100000 in
set_option maxHeartbeats 1000000 in
theorem fail_x (r : Nat) (v : Value) (f e : Int) (w : World) (hr : Rd w r v true f) (he : e ≠ 0) :
    Calls Tryz.prog 201 #[.pointer (some ⟨r, 0, none⟩), .int .i64 e] w (ThrewF r e w) := by
  obtain ⟨q0, q1, q2, f0, f1, f2, hl⟩ := hr.cells
  have hq : (e == 0) = false := by simp [he]
  have HR := hid_of (hr.fail (e := e))
  have HK : Hid (Kept (fun k => k = r) w (((w.setCell ⟨r, 1, none⟩ (.bool false)).setCell ⟨r, 0, none⟩ (.slice none 0 0)).setCell ⟨r, 2, none⟩ (.int .i64 e))) := ((kept_set _ _ _ _).trans (kept_set _ _ _ _)).trans (kept_set _ _ _ _)
  clear hr he
  go_enter Tryz.func201, Tryz.ntmps201
  go_wp2
  exact ⟨rfl, rfl, HR.out, HK.out⟩

set_option maxRecDepth 100000 in
set_option maxHeartbeats 1000000 in
/-- Fail with OK. -/
theorem fail_ok (r : Nat) (w : World) : Calls Tryz.prog 201 #[.pointer (some ⟨r, 0, none⟩), .int .i64 0] w fun e w' => e = .returned (.tuple #[]) ∧ w' = w := by
  go_enter Tryz.func201, Tryz.ntmps201
  go_wp2
  refine body_retv rfl rfl ?_
  exact ⟨rfl, rfl⟩

set_option maxRecDepth 100000 in
set_option maxHeartbeats 1000000 in
/-- Fail of a Reader that is no longer live. -/
theorem fail_dead (r : Nat) (v : Value) (f e : Int) (w : World) (hr : Rd w r v false f) : Calls Tryz.prog 201 #[.pointer (some ⟨r, 0, none⟩), .int .i64 e] w fun e w' => e = .returned (.tuple #[]) ∧ w' = w := by
  obtain ⟨q0, q1, q2, f0, f1, f2, hl⟩ := hr.cells
  clear hr
  by_cases h0 : e = 0
  · subst h0
    exact fail_ok r w
  · have hq : (e == 0) = false := by simp [h0]
    go_enter Tryz.func201, Tryz.ntmps201
    go_wp2
    refine body_retv rfl rfl ?_
    exact ⟨rfl, rfl⟩

set_option maxRecDepth 100000 in
set_option maxHeartbeats 1000000 in
theorem take_bad_x (r g n : Nat) (v : Value) (xs : List Int) (w : World) (f : Int) (hr : Rd w r v true f) (hx : IsR w g v xs) (hn : xs.length < n) (hn' : n ≤ 9223372036854775807) :
    Calls Tryz.prog 210 #[.pointer (some ⟨r, 0, none⟩), .int .i64 n] w (ThrewF r 11 w) := by
  have HF := hid_of (fail_x r v f 11 w hr (by decide))
  obtain ⟨ao, c, rfl⟩ := hx.shape
  obtain ⟨q0, q1, q2, f0, f1, f2, hl⟩ := hr.cells
  have hnI : (xs.length : Int) < (n : Int) := by omega
  clear hr hx
  go_enter Tryz.func210, Tryz.ntmps210
  go_wp2_with fail
  refine HF.out.mono ?_
  rintro e w1 ⟨rfl, h2, h3⟩
  exact ⟨rfl, rfl, h2, h3⟩

set_option maxRecDepth 100000 in
set_option maxHeartbeats 1000000 in
theorem form_none_x (r g : Nat) (v : Value) (w : World) (f : Int) (hr : Rd w r v true f) (hx : IsR w g v []) :
    Calls Tryz.prog 200 #[.pointer (some ⟨r, 0, none⟩)] w (ThrewF r 11 w) := by
  have HF := hid_of (take_bad_x r g 1 v [] w f hr hx (by simp) (by decide))
  obtain ⟨q0, q1, q2, f0, f1, f2, hl⟩ := hr.cells
  clear hr hx
  go_enter Tryz.func200, Tryz.ntmps200
  go_wp2_with fail
  refine HF.out.mono ?_
  rintro e w1 ⟨rfl, h2, h3⟩
  exact ⟨rfl, rfl, h2, h3⟩

set_option maxRecDepth 100000 in
set_option maxHeartbeats 1000000 in
theorem form_cut_x (r g K : Nat) (v : Value) (t : List Int) (w : World) (f : Int) (hr : Rd w r v true f) (hx : IsR w g v ((247 + (K : Int)) :: t)) (hgr : g ≠ r) (hK1 : 1 ≤ K) (hK8 : K ≤ 8) (ht : t.length < K) :
    Calls Tryz.prog 200 #[.pointer (some ⟨r, 0, none⟩)] w (ThrewF r 11 w) := by
  obtain ⟨q0, q1, q2, f0, f1, f2, hl⟩ := hr.cells
  have HT := hid_of (take_ok r g 1 v _ w f hr hx hgr (by simp))
  have hKI : (K : Int) ≤ 8 := by omega
  have hKI1 : (1 : Int) ≤ (K : Int) := by omega
  clear hr hx
  go_enter Tryz.func200, Tryz.ntmps200
  go_wp2_with fail
  refine HT.out.mono ?_
  rintro e w1 ⟨⟨v1, rfl, hb, hbg, _⟩, haf⟩
  obtain ⟨b, o, c, rfl, hc⟩ : ∃ b o c, v1 = .slice (some ⟨b, o, none⟩) 1 c ∧ w1.cell? ⟨b, o, none⟩ = some (.int .u8 (247 + (K : Int))) := by
    rcases hb with ⟨h, _⟩ | ⟨b, o, c, rfl, hc⟩
    · cases h
    · exact ⟨b, o, c, rfl, hc 0 (by simp)⟩
  obtain ⟨v2, hr2, hx2, hk2⟩ := haf
  have hx2' : IsR w1 g v2 t := hx2
  have HT2 := hid_of (take_bad_x r g K v2 t w1 f hr2 hx2' ht (by omega))
  have HK2 := hid_of hk2
  clear HT hb hbg hr2 hx2 hx2' hk2
  go_wp2_with fail
  rw [show (247 + (K : Int) - 247) = (K : Int) from by omega]
  refine HT2.out.mono ?_
  rintro e w3 h3
  obtain ⟨rfl, h2, h3⟩ := h3.behind HK2.out
  exact ⟨rfl, rfl, h2, h3⟩

set_option maxRecDepth 100000 in
set_option maxHeartbeats 2000000 in
/-- form, whose bytes are no form. -/
theorem form_wrong_x (r g : Nat) (v : Value) (u : Int) (K : Nat) (rest : List Int) (w : World) (f : Int) (hr : Rd w r v true f) (hx : IsR w g v ((247 + (K : Int)) :: (Mth.be K u ++ rest))) (hgr : g ≠ r) (hK1 : 1 ≤ K) (hK8 : K ≤ 8) (h0 : 0 ≤ u) (hu : u < (256 : Int) ^ K) (hbad : u ≤ 247 ∨ Mth.sz u ≠ K) :
    Calls Tryz.prog 200 #[.pointer (some ⟨r, 0, none⟩)] w (ThrewF r 12 w) := by
  obtain ⟨q0, q1, q2, _, _, _, hl⟩ := hr.cells
  have h1 : u < 18446744073709551616 := Int.lt_of_lt_of_le hu (pow256_le K hK8)
  have ht := hid_of (take_ok r g 1 v _ w f hr hx hgr (by simp))
  have HU := hid_of hu
  have HBAD := hid_of hbad
  clear hr hx hu hbad
  have hKI : (K : Int) ≤ 8 := by omega
  have hKI1 : (1 : Int) ≤ (K : Int) := by omega
  go_enter Tryz.func200, Tryz.ntmps200
  go_wp2_with fail
  refine ht.out.mono ?_
  rintro e w1 ⟨⟨v1, rfl, hb, hbg, _⟩, haf⟩
  obtain ⟨b, o, c, rfl, hc⟩ : ∃ b o c, v1 = .slice (some ⟨b, o, none⟩) 1 c ∧ w1.cell? ⟨b, o, none⟩ = some (.int .u8 (247 + (K : Int))) := by
    rcases hb with ⟨h, _⟩ | ⟨b, o, c, rfl, hc⟩
    · cases h
    · exact ⟨b, o, c, rfl, hc 0 (by simp)⟩
  obtain ⟨v2, hr2, hx2, hk2⟩ := haf
  have hx2' : IsR w1 g v2 (Mth.be K u ++ rest) := hx2
  have ht2 := take_ok r g K v2 (Mth.be K u ++ rest) w1 f hr2 hx2' hgr (by simp [Mth.be_length])
  rw [List.take_left' (Mth.be_length K u), List.drop_left' (Mth.be_length K u)] at ht2
  have HT2 := hid_of ht2
  have HK2 := hid_of hk2
  clear ht hb hbg hr2 hx2 hx2' hk2 ht2
  go_wp2_with fail
  rw [show (247 + (K : Int) - 247) = (K : Int) from by omega]
  refine HT2.out.mono ?_
  rintro e w3 ⟨⟨v3, rfl, hb3, hbg3, _⟩, haf3⟩
  have HF : Hid (Calls Tryz.prog 201 #[.pointer (some ⟨r, 0, none⟩), .int .i64 12] w3 (ThrewF r 12 w)) := by
    obtain ⟨v4, h4, h5, h6⟩ := haf3
    refine (fail_x r v4 f 12 w3 h4 (by decide)).mono ?_
    intro e w' h
    exact h.behind (HK2.out.trans h6)
  have hlb := Mth.be_length K u
  obtain ⟨b3, o3, c3, rfl, hc3⟩ : ∃ b o c, v3 = .slice (some ⟨b, o, none⟩) K c ∧ ∀ i, i < K → w3.cell? ⟨b, o + i, none⟩ = some (.int .u8 ((u / (256 : Int) ^ (K - 1 - i)) % 256)) := by
    rcases hb3 with ⟨h, _⟩ | ⟨b, o, c, rfl, hc⟩
    · rw [h] at hlb; simp at hlb; omega
    · rw [hlb] at hc ⊢
      refine ⟨b, o, c, rfl, fun i hi => ?_⟩
      rw [hc i hi, List.getD, Mth.be_get K u i hi]
      rfl
  have HC3 := hid_of hc3
  clear HT2 HK2 hb3 hbg3 haf3 hc3 hc hlb
  go_wp2
  go_loop [5, 28] (fun a i => ∃ j : Nat, j ≤ K ∧ i = .int .i64 j ∧ a = .int .u64 (u / (256 : Int) ^ (K - j))) (fun _ i => K - (intOf i).toNat)
  case atStart =>
    refine ⟨0, Nat.zero_le _, rfl, ?_⟩
    rw [Nat.sub_zero, Int.ediv_eq_zero_of_lt (by omega) HU.out]
  case round =>
    obtain ⟨j, hj, rfl, rfl⟩ := hrel
    by_cases hlt : j < K
    · have hcell := HC3.out j hlt
      have hjI : (j : Int) < (K : Int) := by omega
      have hd := div_le u (K - 1 - j) (by omega)
      have E : bits .or .u64 (IntKind.u64.wrap (u / 256 ^ (K - j) * 256)) (u / 256 ^ (K - 1 - j) % 256) = u / 256 ^ (K - (j + 1)) := by
        rw [show K - j = (K - 1 - j) + 1 by omega, div_step, show K - (j + 1) = K - 1 - j by omega]
        exact or_step _ hd.1 (by omega)
      have HE := hid_of E
      clear hd E
      go_wp2
      refine ⟨⟨j + 1, by omega, by go_num, ?_⟩, ?_⟩
      · rw [HE.out]
      · simp [intOf]; omega
    · obtain rfl : j = K := by omega
      have e : u / (256 : Int) ^ (j - j) = u := by rw [Nat.sub_self]; simp
      rw [e]
      by_cases h247 : u ≤ 247
      · have hd1 : decide (u ≤ 247) = true := by simp; omega
        clear e hlt hj
        go_wp2_with fail
        refine HF.out.mono ?_
        rintro e w4 ⟨rfl, h2, h3⟩
        exact ⟨rfl, rfl, h2, h3⟩
      · have hs := size_any u w3 (by omega) h1
        have hne : Mth.sz u ≠ j := by rcases HBAD.out with h | h; exact absurd h h247; exact h
        have hneI : ((Mth.sz u : Int) == (j : Int)) = false := by simp; omega
        have hneN : ((Mth.sz u : Int) != (j : Int)) = true := by simp; omega
        have HS := hid_of hs
        have hd1 : decide (u ≤ 247) = false := by simp; omega
        have hsz8 : (Mth.sz u : Int) ≤ 8 := by have := Mth.sz_le u; omega
        generalize Mth.sz u = z at *
        clear hs e hlt hj hne
        go_wp2_with fail
        refine HS.out.mono ?_
        rintro e w4 ⟨rfl, rfl⟩
        go_wp2_with fail
        refine HF.out.mono ?_
        rintro e w5 ⟨rfl, h2, h3⟩
        exact ⟨rfl, rfl, h2, h3⟩

/-- What a call of a Reader leaves: it tells what is to be told, or throws the fault. -/
def Outs {α : Type} (d : Except Int (α × List Int)) (r g : Nat) (f : Int) (w : World) (told : α → Ending → World → Prop) (e : Ending) (w' : World) : Prop :=
  match d with
  | .ok (a, rest) => told a e w' ∧ After w w' r g f rest
  | .error flt => ThrewF r flt w e w'

/-- form, over any bytes. -/
theorem form_x (r g : Nat) (v : Value) (xs : List Int) (w : World) (f : Int) (hr : Rd w r v true f) (hx : IsR w g v xs) (hgr : g ≠ r) (hb : ∀ x ∈ xs, 0 ≤ x ∧ x ≤ 255) :
    Calls Tryz.prog 200 #[.pointer (some ⟨r, 0, none⟩)] w (Outs (formD xs) r g f w fun u e w' => e = .returned (.int .u64 u) ∧ 0 ≤ u ∧ u < 18446744073709551616) := by
  rcases formD_cases xs hb with ⟨u, rest, h, rfl, h0, h1⟩ | ⟨h, rfl | ⟨K, t, rfl, h1, h8, h2⟩⟩ | ⟨h, K, u, rest, rfl, h1, h8, h3, h4, h5⟩
  · rw [h]
    refine (rdform r g v u rest w f hr hx hgr h0 h1).mono ?_
    rintro e w' ⟨rfl, ha⟩
    exact ⟨⟨rfl, h0, h1⟩, ha⟩
  · rw [h]; exact form_none_x r g v w f hr hx
  · rw [h]; exact form_cut_x r g K v t w f hr hx hgr h1 h8 h2
  · rw [h]; exact form_wrong_x r g v u K rest w f hr hx hgr h1 h8 h3 h4 h5
end Go.Proofs.YtgoabnehdmdikaaGreatDoor

namespace Go.Proofs.YtgoabnehdmdikaaGreatDoor
open Go.RowKit
set_option linter.unusedVariables false

theorem numD_ok {xs : List Int} {u : Int} {rest : List Int} (h : numD xs = .ok (u, rest)) : formD xs = .ok (u, rest) ∧ u ≤ 9223372036854775807 := by
  unfold numD at h
  cases hf : formD xs with
  | error e => rw [hf] at h; cases h
  | ok p =>
    obtain ⟨u', rest'⟩ := p
    rw [hf] at h
    dsimp only at h
    by_cases h1 : u' ≤ 9223372036854775807
    · rw [if_pos h1] at h; cases h; exact ⟨rfl, h1⟩
    · rw [if_neg h1] at h; cases h

set_option maxRecDepth 100000 in
set_option maxHeartbeats 1000000 in
theorem num_throw_x (r : Nat) (flt : Int) (w w0 : World) (hF : Calls Tryz.prog 200 #[.pointer (some ⟨r, 0, none⟩)] w (ThrewF r flt w0)) : Calls Tryz.prog 177 #[.pointer (some ⟨r, 0, none⟩)] w (ThrewF r flt w0) := by
  have HF := hid_of hF
  clear hF
  go_enter Tryz.func177, Tryz.ntmps177
  go_wp2_with fail
  refine HF.out.mono ?_
  rintro e w1 ⟨rfl, h2, h3⟩
  exact ⟨rfl, rfl, h2, h3⟩

set_option maxRecDepth 100000 in
set_option maxHeartbeats 1000000 in
theorem num_big_x (r g : Nat) (v : Value) (u : Int) (rest : List Int) (w : World) (f : Int) (hr : Rd w r v true f) (hx : IsR w g v (Mth.form u ++ rest)) (hgr : g ≠ r) (h0 : 9223372036854775807 < u) (h1 : u < 18446744073709551616) :
    Calls Tryz.prog 177 #[.pointer (some ⟨r, 0, none⟩)] w (ThrewF r 12 w) := by
  have hf := hid_of (rdform r g v u rest w f hr hx hgr (by omega) (by omega))
  clear hr hx
  go_enter Tryz.func177, Tryz.ntmps177
  go_wp2_with fail
  refine hf.out.mono ?_
  rintro e w1 ⟨rfl, v1, a1, a2, a3⟩
  have HF := hid_of (fail_x r v1 f 12 w1 a1 (by decide))
  have HK := hid_of a3
  clear hf a1 a2 a3
  go_wp2_with fail
  refine HF.out.mono ?_
  rintro e w2 h
  obtain ⟨rfl, h2, h3⟩ := h.behind HK.out
  exact ⟨rfl, rfl, h2, h3⟩

/-- Num, over any bytes. -/
theorem num_x (r g : Nat) (v : Value) (xs : List Int) (w : World) (f : Int) (hr : Rd w r v true f) (hx : IsR w g v xs) (hgr : g ≠ r) (hb : ∀ x ∈ xs, 0 ≤ x ∧ x ≤ 255) :
    Calls Tryz.prog 177 #[.pointer (some ⟨r, 0, none⟩)] w (Outs (numD xs) r g f w fun u e w' => e = .returned (.int .i64 u) ∧ 0 ≤ u ∧ u ≤ 9223372036854775807) := by
  unfold numD
  have hfx := form_x r g v xs w f hr hx hgr hb
  rcases formD_cases xs hb with ⟨u, rest, h, he, h0, h1⟩ | h | h
  · rw [h]
    dsimp only
    subst he
    by_cases h2 : u ≤ 9223372036854775807
    · rw [if_pos h2]
      refine (rnum r g v u rest w f hr hx hgr h0 h2).mono ?_
      rintro e w' ⟨rfl, ha⟩
      exact ⟨⟨rfl, h0, h2⟩, ha⟩
    · rw [if_neg h2]
      exact num_big_x r g v u rest w f hr hx hgr (by omega) h1
  · rw [h.1] at hfx ⊢
    exact num_throw_x r 11 w w hfx
  · rw [h.1] at hfx ⊢
    exact num_throw_x r 12 w w hfx

end Go.Proofs.YtgoabnehdmdikaaGreatDoor

namespace Go.Proofs.YtgoabnehdmdikaaGreatDoor
open Go.RowKit
set_option linter.unusedVariables false

/-- A Reader that is no longer live. -/
def Dead (w : World) (r : Nat) : Prop := ∃ f : Int, Rd w r (.slice none 0 0) false f

theorem Dead.kept {w w' : World} {r : Nat} {S : Nat → Prop} (h : Dead w r) (hk : Kept S w w') (hS : ¬ S r) : Dead w' r := by
  obtain ⟨f, h⟩ := h
  exact ⟨f, h.kept hk hS⟩

set_option maxRecDepth 100000 in
set_option maxHeartbeats 1000000 in
theorem form_dead (r : Nat) (f : Int) (w : World) (hr : Rd w r (.slice none 0 0) false f) : Calls Tryz.prog 200 #[.pointer (some ⟨r, 0, none⟩)] w fun e w' => e = .returned (.int .u64 0) ∧ w' = w := by
  obtain ⟨q0, q1, q2, f0, f1, f2, hl⟩ := hr.cells
  clear hr
  go_enter Tryz.func200, Tryz.ntmps200
  go_wp2
  go_ret
  exact ⟨rfl, rfl⟩

set_option maxRecDepth 100000 in
set_option maxHeartbeats 1000000 in
theorem num_dead (r : Nat) (f : Int) (w : World) (hr : Rd w r (.slice none 0 0) false f) : Calls Tryz.prog 177 #[.pointer (some ⟨r, 0, none⟩)] w fun e w' => e = .returned (.int .i64 0) ∧ w' = w := by
  have HF := hid_of (form_dead r f w hr)
  clear hr
  go_enter Tryz.func177, Tryz.ntmps177
  go_wp2_with fail
  refine HF.out.mono ?_
  rintro e w1 ⟨rfl, rfl⟩
  go_wp2
  go_ret
  exact ⟨rfl, rfl⟩

set_option maxRecDepth 100000 in
set_option maxHeartbeats 1000000 in
theorem take_dead (r : Nat) (f : Int) (w : World) (hr : Rd w r (.slice none 0 0) false f) : Calls Tryz.prog 210 #[.pointer (some ⟨r, 0, none⟩), .int .i64 0] w fun e w' => e = .returned (.slice none 0 0) ∧ w' = w.setCell ⟨r, 0, none⟩ (.slice none 0 0) := by
  obtain ⟨q0, q1, q2, f0, f1, f2, hl⟩ := hr.cells
  clear hr
  go_enter Tryz.func210, Tryz.ntmps210
  go_wp2
  go_ret
  exact ⟨rfl, rfl⟩

set_option maxRecDepth 100000 in
set_option maxHeartbeats 1000000 in
theorem take_dead1 (r : Nat) (f : Int) (w : World) (hr : Rd w r (.slice none 0 0) false f) : Calls Tryz.prog 210 #[.pointer (some ⟨r, 0, none⟩), .int .i64 1] w fun e w' => e = .returned (.slice none 0 0) ∧ w' = w := by
  have HF := hid_of (fail_dead r _ f 11 w hr)
  obtain ⟨q0, q1, q2, f0, f1, f2, hl⟩ := hr.cells
  clear hr
  go_enter Tryz.func210, Tryz.ntmps210
  go_wp2_with fail
  refine HF.out.mono ?_
  rintro e w1 ⟨rfl, rfl⟩
  go_wp2
  go_ret
  exact ⟨rfl, rfl⟩

end Go.Proofs.YtgoabnehdmdikaaGreatDoor

namespace Go.Proofs.YtgoabnehdmdikaaGreatDoor
open Go.RowKit
set_option linter.unusedVariables false

/-- What is under way behind a panic: nothing that ends a goroutine. -/
def Plain1 (older : List PanicEntry) : Prop := ∀ q ∈ older, q.goexit = false

theorem Plain1.settle {older : List PanicEntry} (h : Plain1 older) (v : Value) : settle (.panicking ({ v := v, recovered := true } :: older)) = .returning := by
  have : older.dropWhile (fun q => !q.goexit) = [] := by
    induction older with
    | nil => rfl
    | cons a l ih =>
      have ha : a.goexit = false := h a List.mem_cons_self
      rw [List.dropWhile_cons, if_pos (by rw [ha]; rfl)]
      exact ih (fun q hq => h q (List.mem_cons_of_mem _ hq))
  show (match older.dropWhile (fun q => !q.goexit) with | [] => FrameMode.returning | rest => .panicking rest) = _
  rw [this]

theorem other_ptr {a b : Nat} {ca cb : Array Value} {ta tb : TypeId} (hab : a ≠ b) (w : World) (ha : w.heap[a]? = some (.cells ca ta (0, 0))) (hb : w.heap[b]? = some (.cells cb tb (0, 0))) : (binOp .eql 248 (.pointer (some ⟨a, 0, none⟩)) (.pointer (some ⟨b, 0, none⟩))).run Tryz.prog w = .ok (.bool false) w := by
  have h := Tryz.info284
  cases hj : Tryz.prog.info? 284 with
  | none => rw [hj] at h; cases h
  | some j =>
    rw [hj] at h
    have hs : j.size = 3 := by simpa using h
    exact run_eql_ptr_other w Tryz.underlying248 hj (by rw [hs]; decide) (fun e => hab (by cases e; rfl)) ha hb

/-- What the function that is handed to Read leaves. -/
def LedX (r p : Nat) (Q1 : Nat → World → Prop) (Q2 : Int → World → Prop) (Q3 : Nat → World → Prop) (e : Ending) (w' : World) : Prop :=
  (e = .returned (.tuple #[]) ∧ ∃ n, Led r p n 0 w' ∧ Q1 n w') ∨
  (∃ (flt : Int) (older : List PanicEntry), Plain1 older ∧ e = .panicked ({ v := thrownV r, recovered := false } :: older) ∧ Rd w' r (.slice none 0 0) false flt ∧ w'.cell? ⟨p, 0, none⟩ = some (.pointer (some ⟨r, 0, none⟩)) ∧ Q2 flt w') ∨
  (∃ (q : Nat) (older : List PanicEntry), q ≠ r ∧ Plain1 older ∧ e = .panicked ({ v := thrownV q, recovered := false } :: older) ∧ (∃ u l f, Rd w' q u l f) ∧ (∃ ao n c live f, Rd w' r (.slice ao n c) live f) ∧ w'.cell? ⟨p, 0, none⟩ = some (.pointer (some ⟨r, 0, none⟩)) ∧ Q3 q w')

end Go.Proofs.YtgoabnehdmdikaaGreatDoor

namespace Go.Proofs.YtgoabnehdmdikaaGreatDoor
open Go.RowKit
set_option linter.unusedVariables false

theorem numD_split {xs : List Int} {u : Int} {rest : List Int} (hb : ∀ x ∈ xs, 0 ≤ x ∧ x ≤ 255) (h : numD xs = .ok (u, rest)) : xs = Mth.form u ++ rest ∧ 0 ≤ u ∧ u ≤ 9223372036854775807 := by
  rcases formD_cases xs hb with ⟨u', rest', h', he, h0, h1⟩ | h' | h'
  · have := numD_ok h
    rw [h'] at this
    obtain ⟨h2, h3⟩ := this
    cases h2
    exact ⟨he, h0, h3⟩
  · have := (numD_ok h).1; rw [h'.1] at this; cases this
  · have := (numD_ok h).1; rw [h'.1] at this; cases this

end Go.Proofs.YtgoabnehdmdikaaGreatDoor

namespace Go.Proofs.YtgoabnehdmdikaaGreatDoor
open Go.RowKit
set_option linter.unusedVariables false

/-- A call of a script. -/
structure CV where
  k : Int
  n : Int
  o : Int
  bv : Value
  xs : List Int
def CV.default : CV := ⟨0, 0, 0, .slice none 0 0, []⟩
def CV.cells (c : CV) : List Value := [.int .i64 c.k, .int .i64 c.n, .int .i64 c.o, c.bv]

def lift1 (d : Except Int (Int × List Int)) : Except Int ((Int × List Int) × List Int) :=
  match d with
  | .ok (u, rest) => .ok ((u, []), rest)
  | .error e => .error e
def lift2 (d : Except Int (List Int × List Int)) : Except Int ((Int × List Int) × List Int) :=
  match d with
  | .ok (ys, rest) => .ok ((0, ys), rest)
  | .error e => .error e

/-- One call of a Reader: what it tells (a number, bytes), and what is left; or the fault. -/
def oneD (k n : Int) (xs : List Int) : Except Int ((Int × List Int) × List Int) :=
  if k = 1 then lift1 (numD xs) else if k = 2 then lift1 (intD xs) else if k = 3 then lift1 (boolD xs) else if k = 4 then lift2 (bytesD xs) else if k = 5 then lift2 (bytesD xs)
  else if k = 6 then lift2 (rawD n xs) else if k = 7 then lift1 (mostD n xs) else if k = 8 then .ok (((xs.length : Int), []), xs) else if n = 0 then .ok ((0, []), xs) else .error n

/-- Where a script stands: the bytes that each Reader has left, what was told, what the inner Reads answered, how many Readers there were. -/
structure PS where
  pos : Nat
  rs : List (List Int)
  told : List (Int × Int × List Int)
  rets : List Int
  many : Nat

def callP (c : CV) (s : PS) : PS × Option (Nat × Int) :=
  if 1 ≤ c.k ∧ c.k ≤ 9 then
    match oneD c.k c.n (s.rs.getD (s.rs.length - 1 - (c.o % (s.rs.length : Int)).toNat) []) with
    | .ok (g, rest) => ({ s with rs := s.rs.set (s.rs.length - 1 - (c.o % (s.rs.length : Int)).toNat) rest, told := s.told ++ [(c.k, g.1, g.2)] }, none)
    | .error flt => (s, some (s.rs.length - 1 - (c.o % (s.rs.length : Int)).toNat, flt))
  else (s, none)

def play (calls : List CV) : Nat → Int → PS → PS × Option (Nat × Int)
  | 0, _, s => (s, none)
  | fuel + 1, n, s =>
    if 0 < n ∧ s.pos < calls.length ∧ s.pos < 400 then
      if (calls.getD s.pos CV.default).k = 10 then
        if s.rs.length < 20 then
          match play calls fuel (calls.getD s.pos CV.default).n { s with pos := s.pos + 1, rs := s.rs ++ [(calls.getD s.pos CV.default).xs], many := s.many + 1 } with
          | (t, none) => play calls fuel (n - 1) { t with rs := t.rs.take s.rs.length, rets := t.rets ++ [tailOf (t.rs.getD s.rs.length []).length 0] }
          | (t, some (j, flt)) => if j = s.rs.length then play calls fuel (n - 1) { t with rs := t.rs.take s.rs.length, rets := t.rets ++ [flt] } else (t, some (j, flt))
        else play calls fuel (n - 1) { s with pos := s.pos + 1 }
      else
        match callP (calls.getD s.pos CV.default) { s with pos := s.pos + 1 } with
        | (t, none) => play calls fuel (n - 1) t
        | (t, some jf) => (t, some jf)
    else (s, none)

theorem callP_pos (c : CV) (s : PS) : (callP c s).1.pos = s.pos ∧ (callP c s).1.rs.length = s.rs.length := by
  unfold callP
  by_cases h : 1 ≤ c.k ∧ c.k ≤ 9
  · rw [if_pos h]
    cases oneD c.k c.n (s.rs.getD (s.rs.length - 1 - (c.o % (s.rs.length : Int)).toNat) []) with
    | error flt => exact ⟨rfl, rfl⟩
    | ok p => exact ⟨rfl, by simp⟩
  · rw [if_neg h]; exact ⟨rfl, rfl⟩

/-- Where a script stands is never taken back; no Reader that was there is lost; a level that returns has as many Readers as when it began. -/
theorem play_pos (calls : List CV) (fuel : Nat) : ∀ (n : Int) (s : PS), s.pos ≤ (play calls fuel n s).1.pos ∧ s.rs.length ≤ (play calls fuel n s).1.rs.length ∧ ((play calls fuel n s).2 = none → (play calls fuel n s).1.rs.length = s.rs.length) := by
  induction fuel with
  | zero => intro n s; exact ⟨Nat.le_refl _, Nat.le_refl _, fun _ => rfl⟩
  | succ fuel ih =>
    intro n s
    unfold play
    by_cases h : 0 < n ∧ s.pos < calls.length ∧ s.pos < 400
    · rw [if_pos h]
      generalize calls.getD s.pos CV.default = c
      by_cases h10 : c.k = 10
      · rw [if_pos h10]
        by_cases h20 : s.rs.length < 20
        · rw [if_pos h20]
          have h1 := ih c.n { s with pos := s.pos + 1, rs := s.rs ++ [c.xs], many := s.many + 1 }
          cases hp : play calls fuel c.n { s with pos := s.pos + 1, rs := s.rs ++ [c.xs], many := s.many + 1 } with
          | mk t o =>
            rw [hp] at h1
            dsimp only at h1
            rw [List.length_append, List.length_singleton] at h1
            have htk : (t.rs.take s.rs.length).length = s.rs.length := by rw [List.length_take]; omega
            cases o with
            | none =>
              dsimp only
              have h2 := ih (n - 1) { t with rs := t.rs.take s.rs.length, rets := t.rets ++ [tailOf (t.rs.getD s.rs.length []).length 0] }
              dsimp only at h2
              rw [htk] at h2
              exact ⟨by omega, h2.2.1, h2.2.2⟩
            | some jf =>
              obtain ⟨j, flt⟩ := jf
              dsimp only
              by_cases hj : j = s.rs.length
              · rw [if_pos hj]
                have h2 := ih (n - 1) { t with rs := t.rs.take s.rs.length, rets := t.rets ++ [flt] }
                dsimp only at h2
                rw [htk] at h2
                exact ⟨by omega, h2.2.1, h2.2.2⟩
              · rw [if_neg hj]
                exact ⟨by dsimp only; omega, by dsimp only; omega, fun e => by cases e⟩
        · rw [if_neg h20]
          have h2 := ih (n - 1) { s with pos := s.pos + 1 }
          exact ⟨Nat.le_trans (Nat.le_succ _) h2.1, h2.2⟩
      · rw [if_neg h10]
        have hc := callP_pos c { s with pos := s.pos + 1 }
        cases hp : callP c { s with pos := s.pos + 1 } with
        | mk t o =>
          rw [hp] at hc
          dsimp only at hc
          cases o with
          | none =>
            dsimp only
            have h2 := ih (n - 1) t
            rw [hc.2] at h2
            exact ⟨by omega, h2.2⟩
          | some jf => exact ⟨by dsimp only; omega, by dsimp only; omega, fun e => by cases e⟩
    · rw [if_neg h]; exact ⟨Nat.le_refl _, Nat.le_refl _, fun _ => rfl⟩
end Go.Proofs.YtgoabnehdmdikaaGreatDoor

namespace Go.Proofs.YtgoabnehdmdikaaGreatDoor
open Go.RowKit
set_option linter.unusedVariables false

section
variable {P : Program} {w : World}
/-- An append onto a row of one's own, as one step of a region that draws its order: where the row lies behind it. -/
theorem step_own_at {ops : Array Oper} {o : Oper} {a : Act} {K : Act → World → Prop} {Q : Exit → Act → World → Prop} {E : Prop} (hg : o.guard = none) (s x : Operand) (t : TypeId)
    (ho : o.op = .call { callee := .builtin .append, args := #[s, x], argTypes := #[t, t] }) (base : Nat) (e : TypeId) (i : TypeInfo) (z : Value) (size bytes : Nat) (ht : P.underlying t = some (.slice e)) (hi : P.info? e = some i) (hz : i.zero = some z)
    (hsize : i.size = size) (hby : i.bytes = bytes) (hzs : z.cells.size = size) (hsz : 0 < size)
    (v : Value) (n : Nat) (xs : List Value) (hs : a.eval s = v) (hown : w.ownsRow base e size v n xs)
    (ad : Addr) (m c : Nat) (news : List Value) (hx : a.eval x = .slice (some ad) m c) (hl : news.length = m * size) (hnews : ∀ j u, news[j]? = some u → w.cell? (ad.add j) = some u) (h1 : ∀ u ∈ news, u.oneCell' = true)
    (h63 : n + m ≤ maxLen) (hbytes : (n + m) * bytes ≤ 140737488355328) (hbase : base ≤ w.heap.size)
    (h : ∀ v' w', w'.ownsRow base e size v' (n + m) (xs ++ news) → w.grownBy w' v.ownBlock → (v'.ownBlock = v.ownBlock ∨ v'.ownBlock = some w.heap.size) → K (a.put o.dst v') w') :
    if Region.wanted o (yielded ops a.tmps) = true then Oper.wp P o a w K Q else E := by
  have hw : Region.wanted o (yielded ops a.tmps) = true := by simp [Region.wanted, hg]
  rw [if_pos hw]
  obtain ⟨v', w', hr, h2, h3, h4, h5⟩ := run_append_own_at (P := P) w base t o.type e i z size bytes ht hi hz hsize hby hzs hsz v n xs hown ad m c news hl hnews h1 h63 hbytes hbase
  unfold Oper.wp
  simp [execOp, ho, resolve, invoke, builtin, hs, hx, hr, Result.andThen]
  exact h v' w' h2 h3 h5
end

theorem step_call1 {P : Program} {w : World} {ops : Array Oper} {o : Oper} {a : Act} {K : Act → World → Prop} {Q : Exit → Act → World → Prop} {E : Prop} (hg : o.guard = none) (F : FuncId) (x : Operand) (t : TypeId)
    (ho : o.op = .call { callee := .value (.func F), args := #[x], argTypes := #[t] }) (v : Value) (hx : a.eval x = v) (v' : Value) (hent : (callFunc F #[v]).run P w = .ok (.enter F #[v]) w) (h : Calls P F #[v] w fun e w' => e = .returned v' ∧ w' = w) (hK : K (a.put o.dst v') w) :
    if Region.wanted o (yielded ops a.tmps) = true then Oper.wp P o a w K Q else E := by
  have hw : Region.wanted o (yielded ops a.tmps) = true := by simp [Region.wanted, hg]
  rw [if_pos hw]
  unfold Oper.wp
  have e1 : (Deferred.ofValue (a.eval (Operand.func F)) #[v]).run P w = .ok { target := .fn (.func F) #[], args := #[v] } w := by simp [go_sem]
  simp [execOp, ho, resolve, invoke, hx, Result.andThen]
  rw [e1]
  simp [hent]
  rw [Oper.upon_enter]
  refine h.mono ?_
  rintro e w' ⟨rfl, rfl⟩
  exact hK
/-- An item that is put without a fault, and read back as it was. -/
def Good (x : ItV) : Prop := 1 ≤ x.k ∧ x.k ≤ 6 ∧ -9223372036854775808 ≤ x.n ∧ x.n < 9223372036854775808 ∧ (x.k = 1 → 0 ≤ x.n) ∧ (x.k = 3 → 0 ≤ x.n ∧ x.n ≤ 1) ∧ (∀ y ∈ x.xs, 0 ≤ y ∧ y ≤ 255) ∧ x.xs.length ≤ 65536

def ItV.enc (x : ItV) : List Int := itemBytes x.k x.n x.xs
def encs (l : List ItV) : List Int := l.flatMap ItV.enc

/-- What was told of an item: it is that item, as far as its kind says. -/
def Told (w0 w : World) (tv lv : Value) (x y : ItV) : Prop :=
  y.k = x.k ∧ (x.k ≤ 3 → y.n = x.n) ∧ (3 < x.k → y.xs = x.xs) ∧ IsB w y.bv y.xs ∧ ∀ q, y.bv.ownBlock = some q → w0.heap.size ≤ q ∧ q < w.heap.size ∧ tv.ownBlock ≠ some q ∧ lv.ownBlock ≠ some q

theorem Told.kept {w0 w w' : World} {tv lv : Value} {x y : ItV} {S : Nat → Prop} (h : Told w0 w tv lv x y) (hk : Kept S w w') (hS : ∀ q, w0.heap.size ≤ q → q < w.heap.size → tv.ownBlock ≠ some q → lv.ownBlock ≠ some q → ¬ S q) : Told w0 w' tv lv x y := by
  obtain ⟨h1, h2, h3, h4, h5⟩ := h
  exact ⟨h1, h2, h3, h4.kept hk (fun q hq => hS q (h5 q hq).1 (h5 q hq).2.1 (h5 q hq).2.2.1 (h5 q hq).2.2.2), fun q hq => ⟨(h5 q hq).1, Nat.lt_of_lt_of_le (h5 q hq).2.1 hk.size, (h5 q hq).2.2⟩⟩

theorem getD_snoc (l : List ItV) (y : ItV) (i : Nat) (h : i < l.length + 1) : (l ++ [y]).getD i ItV.default = if i = l.length then y else l.getD i ItV.default := by
  by_cases e : i = l.length
  · subst e; simp [List.getD]
  · rw [if_neg e, List.getD, List.getElem?_append_left (by omega)]; rfl

theorem kept_app {w3 wA w5 : World} {row : Option Nat} (h : wA.grownBy w5 row) (hA : Kept (fun _ => False) w3 wA) : Kept (fun q => row = some q) w3 w5 :=
  (hA.mono (fun _ _ f => f.elim)).grown h (fun k e => .inr e)

theorem hat_of {v v' : Value} {W w3 : World} (h : v'.ownBlock = v.ownBlock ∨ v'.ownBlock = some W.heap.size) (hs : w3.heap.size ≤ W.heap.size) : v'.ownBlock = v.ownBlock ∨ ∀ q, v'.ownBlock = some q → w3.heap.size ≤ q := by
  rcases h with h | h
  · exact .inl h
  · exact .inr (fun q hq => by rw [h] at hq; have := Option.some.inj hq; omega)

theorem encs_drop (its : List ItV) (k : Nat) (h : k < its.length) : encs (its.drop k) = (its.getD k ItV.default).enc ++ encs (its.drop (k + 1)) := by
  have e : its.drop k = its.getD k ItV.default :: its.drop (k + 1) := by
    rw [List.drop_eq_getElem_cons h]
    simp [List.getD, List.getElem?_eq_getElem h]
  rw [e]
  rfl

/-- A string as bytes: new memory. -/
theorem conv_back (w : World) (xs : List Int) (hx : ∀ x ∈ xs, 0 ≤ x ∧ x ≤ 255) : ∃ cp W', (convert 9 23 (.string (str xs))).run Tryz.prog w = .ok (.slice (some ⟨w.heap.size, 0, none⟩) xs.length cp) W' ∧ Kept (fun _ => False) w W' ∧ IsB W' (.slice (some ⟨w.heap.size, 0, none⟩) xs.length cp) xs ∧ w.heap.size < W'.heap.size := by
  have h := run_bytes_of_string (P := Tryz.prog) w 9 23 5 (str xs) Tryz.underlying9 Tryz.underlying23 Tryz.underlying5
  rw [str_size] at h
  refine ⟨_, _, h, ((Kept.refl _ _).drew).alloc _, .inr ⟨w.heap.size, 0, _, rfl, fun i hi => ?_⟩, by simp⟩
  have hsz : (str xs).data.size = xs.length := str_size xs
  have hal := heap_alloc_new w.drew (.cells (bytesRow (str xs) (grownCap w xs.length 0 5)) 5 ((bytesRow (str xs) (grownCap w xs.length 0 5)).size, (bytesRow (str xs) (grownCap w xs.length 0 5)).size + 1))
  have hal' : (w.drew.alloc (.cells (bytesRow (str xs) (grownCap w xs.length 0 5)) 5 ((bytesRow (str xs) (grownCap w xs.length 0 5)).size, (bytesRow (str xs) (grownCap w xs.length 0 5)).size + 1))).heap[w.heap.size]? = some _ := hal
  rw [cell_block _ _ _ _ _ _ hal', Nat.zero_add]
  have hn := congrArg (fun l : List Int => l[i]?) (str_nums xs hx)
  simp only [nums, List.getElem?_map] at hn
  have hi' : i < (str xs).data.size := by rw [hsz]; exact hi
  rw [show (str xs).data.toList[i]? = some ((str xs).data[i]'hi') from by simp, List.getElem?_eq_getElem hi] at hn
  simp only [Option.map_some, Option.some.injEq] at hn
  unfold bytesRow
  rw [Array.getElem?_append_left (by simpa using hi'), Array.getElem?_map, Array.getElem?_eq_getElem hi']
  simp [List.getD, List.getElem?_eq_getElem hi, hn]

theorem Tryz.info3 : (Tryz.prog.info? 3).map (fun i => (i.zero, i.size, i.bytes)) = some (some (.int .i64 0), 1, 8) := by kernel_rfl
end Go.Proofs.YtgoabnehdmdikaaGreatDoor

namespace Go.Proofs.YtgoabnehdmdikaaGreatDoor

/-- Bytes, and not too many. -/
def BytesOk (xs : List Int) : Prop := (∀ x ∈ xs, 0 ≤ x ∧ x ≤ 255) ∧ xs.length ≤ 140737488351232
end Go.Proofs.YtgoabnehdmdikaaGreatDoor

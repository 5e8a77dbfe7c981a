/-
  A Reader's faults: Fail, and take of more than is left.
-/
import Derived.Test.YtffabihenhejfaaDec
namespace Go.Proofs.Ytffabihenhejfaa
open Go.RowKit
set_option linter.unusedVariables false

/-- What is thrown for a Reader. -/
def thrownV (r : Nat) : Value := .iface 107 (.agg #[.pointer (some ⟨r, 0, none⟩)])
/-- A fault was met: it is thrown, and the Reader is no longer live. -/
def Threw (r : Nat) (w : World) (e : Ending) (w' : World) : Prop :=
  ∃ flt : Int, flt ≠ 0 ∧ e = .panicked [{ v := thrownV r, recovered := false }] ∧ Rd w' r (.slice none 0 0) false flt ∧ Kept (fun k => k = r) w w'

theorem Rd.fail {w : World} {r : Nat} {v : Value} {f e : Int} (h : Rd w r v true f) : Rd (((w.setCell ⟨r, 1, none⟩ (.bool false)).setCell ⟨r, 0, none⟩ (.slice none 0 0)).setCell ⟨r, 2, none⟩ (.int .i64 e)) r (.slice none 0 0) false e := by
  unfold Rd
  rw [set_block _ _ _ _ _ _ (set_block _ _ _ _ _ _ (set_block _ _ _ _ _ _ h _) _)]
  rfl

set_option maxRecDepth 100000 in
set_option maxHeartbeats 1000000 in
theorem fail_any (r : Nat) (v : Value) (f e : Int) (w : World) (hr : Rd w r v true f) (he : e ≠ 0) :
    Calls Try.prog 46 #[.pointer (some ⟨r, 0, none⟩), .int .i64 e] w (Threw r w) := by
  obtain ⟨q0, q1, q2, f0, f1, f2, hl⟩ := hr.cells
  have hq : (e == 0) = false := by simp [he]
  have HR := hid_of (hr.fail (e := e))
  have HK : Hid (Kept (fun k => k = r) w (((w.setCell ⟨r, 1, none⟩ (.bool false)).setCell ⟨r, 0, none⟩ (.slice none 0 0)).setCell ⟨r, 2, none⟩ (.int .i64 e))) := ((kept_set _ _ _ _).trans (kept_set _ _ _ _)).trans (kept_set _ _ _ _)
  have HE := hid_of he
  clear hr he
  go_enter Try.func46, Try.ntmps46
  go_wp2
  exact ⟨rfl, e, HE.out, rfl, HR.out, HK.out⟩

theorem Threw.behind {r : Nat} {w w1 w' : World} {e : Ending} (h : Threw r w1 e w') (hk : Kept (fun k => k = r) w w1) : Threw r w e w' := by
  obtain ⟨flt, h0, h1, h2, h3⟩ := h
  exact ⟨flt, h0, h1, h2, hk.trans h3⟩

set_option maxRecDepth 100000 in
set_option maxHeartbeats 1000000 in
/-- take of more than is left. -/
theorem take_bad (r g n : Nat) (v : Value) (xs : List Int) (w : World) (f : Int) (hr : Rd w r v true f) (hx : IsR w g v xs) (hn : xs.length < n) (hn' : n ≤ 9223372036854775807) :
    Calls Try.prog 64 #[.pointer (some ⟨r, 0, none⟩), .int .i64 n] w (Threw r w) := by
  have HF := hid_of (fail_any r v f 11 w hr (by decide))
  obtain ⟨ao, c, rfl⟩ := hx.shape
  obtain ⟨q0, q1, q2, f0, f1, f2, hl⟩ := hr.cells
  have hnI : (xs.length : Int) < (n : Int) := by omega
  clear hr hx
  go_enter Try.func64, Try.ntmps64
  go_wp2_with fail
  refine HF.out.mono ?_
  rintro e w1 ⟨flt, h0, rfl, h2, h3⟩
  exact ⟨rfl, flt, h0, rfl, h2, h3⟩

set_option maxRecDepth 100000 in
set_option maxHeartbeats 1000000 in
/-- form, where nothing is left. -/
theorem form_none (r g : Nat) (v : Value) (w : World) (f : Int) (hr : Rd w r v true f) (hx : IsR w g v []) :
    Calls Try.prog 62 #[.pointer (some ⟨r, 0, none⟩)] w (Threw r w) := by
  have HF := hid_of (take_bad r g 1 v [] w f hr hx (by simp) (by decide))
  obtain ⟨q0, q1, q2, f0, f1, f2, hl⟩ := hr.cells
  clear hr hx
  go_enter Try.func62, Try.ntmps62
  go_wp2_with fail
  refine HF.out.mono ?_
  rintro e w1 ⟨flt, h0, rfl, h2, h3⟩
  exact ⟨rfl, flt, h0, rfl, h2, h3⟩

set_option maxRecDepth 100000 in
set_option maxHeartbeats 1000000 in
/-- form, whose bytes are cut. -/
theorem form_cut (r g K : Nat) (v : Value) (t : List Int) (w : World) (f : Int) (hr : Rd w r v true f) (hx : IsR w g v ((247 + (K : Int)) :: t)) (hgr : g ≠ r) (hK1 : 1 ≤ K) (hK8 : K ≤ 8) (ht : t.length < K) :
    Calls Try.prog 62 #[.pointer (some ⟨r, 0, none⟩)] w (Threw r w) := by
  obtain ⟨q0, q1, q2, f0, f1, f2, hl⟩ := hr.cells
  have HT := hid_of (take_ok r g 1 v _ w f hr hx hgr (by simp))
  have hKI : (K : Int) ≤ 8 := by omega
  have hKI1 : (1 : Int) ≤ (K : Int) := by omega
  clear hr hx
  go_enter Try.func62, Try.ntmps62
  go_wp2_with fail
  refine HT.out.mono ?_
  rintro e w1 ⟨⟨v1, rfl, hb, hbg, _⟩, haf⟩
  obtain ⟨b, o, c, rfl, hc⟩ : ∃ b o c, v1 = .slice (some ⟨b, o, none⟩) 1 c ∧ w1.cell? ⟨b, o, none⟩ = some (.int .u8 (247 + (K : Int))) := by
    rcases hb with ⟨h, _⟩ | ⟨b, o, c, rfl, hc⟩
    · cases h
    · exact ⟨b, o, c, rfl, hc 0 (by simp)⟩
  obtain ⟨v2, hr2, hx2, hk2⟩ := haf
  have hx2' : IsR w1 g v2 t := hx2
  have HT2 := hid_of (take_bad r g K v2 t w1 f hr2 hx2' ht (by omega))
  have HK2 := hid_of hk2
  clear HT hb hbg hr2 hx2 hx2' hk2
  go_wp2_with fail
  rw [show (247 + (K : Int) - 247) = (K : Int) from by omega]
  refine HT2.out.mono ?_
  rintro e w3 h3
  obtain ⟨flt, h0, rfl, h2, h3⟩ := h3.behind HK2.out
  exact ⟨rfl, flt, h0, rfl, h2, h3⟩
end Go.Proofs.Ytffabihenhejfaa

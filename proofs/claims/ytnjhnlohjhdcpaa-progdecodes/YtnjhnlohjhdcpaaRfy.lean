/-
  The reference's Reader: take, as a whole.
-/
import Derived.Test.YtnjhnlohjhdcpaaRfu
import Derived.Test.YtnjhnlohjhdcpaaRfv
import Derived.Test.YtnjhnlohjhdcpaaRfx
import Derived.Test.YtnjhnlohjhdcpaaRfxb
namespace Go.Proofs.Ytnjhnlohjhdcpaa
open Go.RowKit Go.Deep
set_option linter.unusedVariables false

/-- A slice of so many bytes as the entry hands it in. -/
def Capd (v : Value) (L : Nat) : Prop := v = .slice none 0 0 ∨ ∃ a c, v = .slice (some a) L c ∧ L ≤ c

/-- What the reference's take answers. -/
def TakeR (xs : List Int) (w : World) (r : Nat) (v : Value) (p : Nat) (flt : Int) (a : Nat) (m : Int) (e : Ending) (w' : World) : Prop :=
  ((xs.length : Int) - p - a < m ∧ e = .returned (.slice none 0 0) ∧ RR w' r v p 11 ∧ Kept (fun q => q = r) w w') ∨
  (m ≤ (xs.length : Int) - p - a ∧ ∃ v', e = .returned v' ∧ IsB w' v' ((xs.drop (p + a)).take m.toNat) ∧ (∀ b, v'.ownBlock = some b → w.heap.size ≤ b ∧ b < w'.heap.size) ∧ RR w' r v (p + a + m.toNat) flt ∧ Kept (fun q => q = r) w w')

theorem take_ref (r : Nat) (v : Value) (xs : List Int) (p : Nat) (flt : Int) (a : Nat) (m : Int) (w : World) (h : RR w r v p flt) (hx : IsB w v xs) (hb : BytesOk xs) (hc : Capd v xs.length) (hp : p + a ≤ xs.length) (hm : 0 ≤ m) :
    Calls Try.prog 79 #[.pointer (some ⟨r, 0, none⟩), .int .i64 (a : Int), .int .i64 m] w (TakeR xs w r v p flt a m) := by
  obtain ⟨vao, vc, hvv⟩ := hx.shape
  by_cases hlt : (xs.length : Int) - p - a < m
  · rw [hvv] at h
    refine (take_short r vao xs.length vc p flt m a w h hb.2 hp hlt).mono ?_
    rintro e w' ⟨rfl, h1, h2⟩
    rw [← hvv] at h1
    exact .inl ⟨hlt, rfl, h1, h2⟩
  · obtain ⟨k, rfl⟩ := Int.eq_ofNat_of_zero_le hm
    have hle : p + a + k ≤ xs.length := by omega
    by_cases hk : k = 0
    · subst hk
      have fin : ∀ (e : Ending) (w' : World), e = .returned (.slice none 0 0) ∧ RR w' r v (p + a) flt ∧ Kept (fun q => q = r) w w' → TakeR xs w r v p flt a ((0 : Nat) : Int) e w' := fun e w' ⟨h0, h1, h2⟩ => .inr ⟨by omega, _, h0, .inl ⟨by simp, _, _, rfl⟩, fun b hb => (by cases hb), by simpa using h1, h2⟩
      rcases hc with hv0 | ⟨ad, c, hv1, hcl⟩
      · have hl0 : xs.length = 0 := by rw [hv0] at hvv; simp at hvv; exact hvv.2.1.symm
        have hp0 : p = 0 := by omega
        have ha0 : a = 0 := by omega
        subst hp0
        subst ha0
        rw [hv0] at h
        refine (take_none3 r flt w h).mono ?_
        rintro e w' ⟨h1, h2, h3⟩
        exact fin e w' ⟨h1, by rw [hv0]; exact h2, h3⟩
      · rw [hv1] at h
        by_cases hcp : c = p + a
        · subst hcp
          refine (take_none2 r ad xs.length p a flt w h hb.2 hp).mono ?_
          rintro e w' h1
          rw [← hv1] at h1
          exact fin e w' h1
        · refine (take_none1 r ad xs.length c p a flt w h hb.2 hcl hp hcp).mono ?_
          rintro e w' h1
          rw [← hv1] at h1
          exact fin e w' h1
    · rcases hx with ⟨h0, _⟩ | ⟨g, o, c, hv, hcell⟩
      · rw [h0] at hle; simp at hle; omega
      · have hcl : xs.length ≤ c := by
          rcases hc with hv0 | ⟨ad, c', hv1, hcl⟩
          · rw [hv0] at hv; cases hv
          · rw [hv1] at hv; cases hv; exact hcl
        rw [hv] at h
        have hyl : ((xs.drop (p + a)).take k).length = k := by rw [List.length_take, List.length_drop]; omega
        refine (take_some r g o xs.length c p flt a k ((xs.drop (p + a)).take k) w h hb.2 hcl hle (by omega) hyl (fun i hi => ?_)).mono ?_
        · have := hcell (p + a + i) (by omega)
          rw [show o + (p + a) + i = o + (p + a + i) from by omega, this]
          rw [List.getD, List.getD, List.getElem?_take, if_pos hi, List.getElem?_drop]
        · rintro e w' ⟨v', rfl, h1, h2, h3⟩
          rw [← hv] at h2
          exact .inr ⟨by omega, v', rfl, isB_own h1, fun b hb => h1.lt b hb, h2, h3⟩
end Go.Proofs.Ytnjhnlohjhdcpaa

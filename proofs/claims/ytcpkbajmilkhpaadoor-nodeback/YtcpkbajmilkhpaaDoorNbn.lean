/-
  Unlike entries have unlike bytes; Encode and Decode as NodeBack calls them.
-/
import Derived.Test.YtcpkbajmilkhpaaDoorNbm
import Derived.Test.YtcpkbajmilkhpaaDoorNop
import Derived.Test.YtcpkbajmilkhpaaDoorNrw
namespace Go.Proofs.YtcpkbajmilkhpaaDoor
open Go.RowKit
set_option linter.unusedVariables false
set_option linter.unusedSimpArgs false
set_option maxRecDepth 100000

theorem isFront_of {fr : List Int} (h1 : fr.length ≤ 32) (h2 : endsZ fr = false) : isFrontB fr = true := by
  unfold isFrontB
  rw [decide_eq_true h1, h2]
  rfl
theorem of_isFront {fr : List Int} (h : isFrontB fr = true) : fr.length ≤ 32 ∧ endsZ fr = false := by
  unfold isFrontB at h
  rw [Bool.and_eq_true] at h
  exact ⟨of_decide_eq_true h.1, by simpa using h.2⟩

theorem fr_le (y z : EV) (hy : y.fr.length ≤ 32) (hz : z.fr.length ≤ 32) (hez : endsZ z.fr = false) (h : y.dig = z.dig) : z.fr.length ≤ y.fr.length := by
  rcases Nat.lt_or_ge y.fr.length z.fr.length with hlt | hge
  · exfalso
    have h1 := dig_front z (z.fr.length - 1) (by omega)
    have h2 := dig_zero y (z.fr.length - 1) (by omega)
    rw [h, h1] at h2
    unfold endsZ at hez
    rw [List.getLast?_eq_getElem?, List.getElem?_eq_getElem (by omega)] at hez
    rw [List.getD, List.getElem?_eq_getElem (by omega)] at h2
    simp at h2 hez
    exact hez h2
  · exact hge
theorem eqE_eq (y z : EV) (hy : y.Ok) (hz : z.Ok) (h : eqE y z = true) : y = z := by
  unfold eqE at h
  rw [Bool.and_eq_true, Bool.and_eq_true] at h
  obtain ⟨h1, h2, h3⟩ := h
  have e1 : y.nm = z.nm := by
    rw [str_eq y.nm z.nm hy.nm hz.nm] at h1
    exact of_decide_eq_true h1
  have e2 : y.k = z.k := by simpa using h2
  have e3 : y.dig = z.dig := of_decide_eq_true h3
  have l1 := fr_le y z hy.fr.1 hz.fr.1 hz.fr.2 e3
  have l2 := fr_le z y hz.fr.1 hy.fr.1 hy.fr.2 e3.symm
  have e4 : y.fr = z.fr := by
    have a1 : y.dig.take y.fr.length = y.fr := by rw [EV.dig, List.take_left]
    have a2 : z.dig.take z.fr.length = z.fr := by rw [EV.dig, List.take_left]
    rw [← a1, ← a2, e3, show y.fr.length = z.fr.length by omega]
  cases y
  cases z
  simp_all
theorem sameL_eq : ∀ ys zs : List EV, (∀ y ∈ ys, y.Ok) → (∀ z ∈ zs, z.Ok) → sameL ys zs = true → ys = zs
  | [], [], _, _, _ => rfl
  | [], _ :: _, _, _, h => by cases h
  | _ :: _, [], _, _, h => by cases h
  | y :: ys, z :: zs, hy, hz, h => by
    rw [sameL, Bool.and_eq_true] at h
    rw [eqE_eq y z (hy y (List.mem_cons_self ..)) (hz z (List.mem_cons_self ..)) h.1, sameL_eq ys zs (fun a ha => hy a (List.mem_cons_of_mem _ ha)) (fun a ha => hz a (List.mem_cons_of_mem _ ha)) h.2]

theorem form_byte (u : Int) (h0 : 0 ≤ u) : ∀ x ∈ Mth.form u, 0 ≤ x ∧ x ≤ 255 := by
  intro x hx
  unfold Mth.form at hx
  have hs := Mth.sz_le u
  split at hx
  · simp at hx
    omega
  · rcases List.mem_cons.1 hx with rfl | hx
    · omega
    · exact Mth.be_byte _ _ x hx
theorem entB_byte (y : EV) (hy : y.Ok) (hk : 0 ≤ y.k) : ∀ x ∈ entB y, 0 ≤ x ∧ x ≤ 255 := by
  intro x hx
  unfold entB at hx
  simp only [List.mem_append] at hx
  rcases hx with hx | (hx | hx) | (hx | hx)
  · exact form_byte _ hk x hx
  · exact form_byte _ (by omega) x hx
  · exact hy.nm x hx
  · exact form_byte _ (by omega) x hx
  · exact hy.frb x hx
theorem encB_byte (ys : List EV) (hy : ∀ y ∈ ys, y.Ok) (hk : ∀ y ∈ ys, 0 ≤ y.k) : ∀ x ∈ encB ys, 0 ≤ x ∧ x ≤ 255 := by
  intro x hx
  unfold encB entsB at hx
  simp only [List.mem_append, List.mem_flatMap] at hx
  rcases hx with hx | hx | ⟨y, h1, h2⟩
  · exact form_byte 1 (by decide) x hx
  · exact form_byte _ (by omega) x hx
  · exact entB_byte y (hy y h1) (hk y h1) x h2

/-- What is right of a right list. -/
theorem right_enc {ys : List EV} (hy : ∀ y ∈ ys, y.Ok) (h : checkD nameP ys = 0) : encS ys = .ok (encB ys) ∧ BytesOk (encB ys) ∧ (encB ys).length ≤ 103500 ∧ ∀ rest, listD nameP (encB ys ++ rest) = .ok (ys, rest) := by
  obtain ⟨hn, hg⟩ := checkD_zero h
  have he := goodE_each ys [] hg
  obtain ⟨h1, h2⟩ := enc_ok nameP_len h (fun y hy' => (hy y hy').fr.1)
  refine ⟨h1, ⟨encB_byte ys hy (fun y hy' => by rcases (he y hy').1 with e | e <;> omega), by omega⟩, h2, fun rest => listD_form ys rest hn hg (fun y hy' => ⟨isFront_of (hy y hy').fr.1 (hy y hy').fr.2, ?_⟩)⟩
  have := nameP_len _ (he y hy').2
  omega

theorem right_dec {ys : List EV} (hy : ∀ y ∈ ys, y.Ok) (h : checkD nameP ys = 0) : decK (encB ys) = 0 ∧ decL (encB ys) = ys := by
  obtain ⟨_, _, hl, hd⟩ := right_enc hy h
  have hd0 := hd []
  rw [List.append_nil] at hd0
  unfold decK decL
  rw [if_neg (by omega), if_neg (by omega), hd0]
  exact ⟨rfl, rfl⟩
theorem right_same {ys zs : List EV} (hy : ∀ y ∈ ys, y.Ok) (hz : ∀ z ∈ zs, z.Ok) (h : checkD nameP ys = 0) (h' : checkD nameP zs = 0) : ((str (encB ys)).toList == (str (encB zs)).toList) = sameL ys zs := by
  obtain ⟨_, b1, _, hd⟩ := right_enc hy h
  obtain ⟨_, b2, _, hd'⟩ := right_enc hz h'
  rw [str_eq _ _ b1.1 b2.1]
  by_cases e : encB ys = encB zs
  · have h1 := hd []
    have h2 := hd' []
    rw [e, h2] at h1
    cases h1
    rw [sameL_refl, decide_eq_true rfl]
  · rw [decide_eq_false e]
    cases hs : sameL ys zs with
    | false => rfl
    | true => exact absurd (by rw [sameL_eq ys zs hy hz hs]) e
theorem right_front {ys zs : List EV} (hy : ∀ y ∈ ys, y.Ok) (hz : ∀ z ∈ zs, z.Ok) (h : checkD nameP ys = 0) (h' : checkD nameP zs = 0) (hlt : (encB ys).length < (encB zs).length) : ((str ((encB zs).take (encB ys).length)).toList == (str (encB ys)).toList) = false := by
  obtain ⟨_, b1, _, hd⟩ := right_enc hy h
  obtain ⟨_, b2, _, hd'⟩ := right_enc hz h'
  rw [str_eq _ _ (fun x hx => b2.1 x (List.mem_of_mem_take hx)) b1.1, decide_eq_false]
  intro e
  have hq : encB ys ++ (encB zs).drop (encB ys).length = encB zs := by
    have := List.take_append_drop (encB ys).length (encB zs)
    rw [e] at this
    exact this
  have h1 := hd ((encB zs).drop (encB ys).length)
  have h2 := hd' []
  rw [List.append_nil] at h2
  rw [hq, h2] at h1
  have h3 := congrArg List.length (Prod.mk.inj (Except.ok.inj h1)).2
  rw [List.length_drop] at h3
  simp at h3
  omega
theorem back_enc {xs : List Int} (hb : BytesOk xs) (h : decK xs = 0) : checkD nameP (decL xs) = 0 ∧ encB (decL xs) = xs ∧ encS (decL xs) = .ok xs ∧ ∀ y ∈ decL xs, (y.fr.length ≤ 32 ∧ endsZ y.fr = false) ∧ (∀ x ∈ y.nm, 0 ≤ x ∧ x ≤ 255) ∧ (y.k = 1 ∨ y.k = 2) := by
  unfold decK at h
  unfold decL
  split at h
  · cases h
  · rename_i hl
    rw [if_neg hl]
    cases hd : listD nameP xs with
    | error f =>
      rw [hd] at h
      exact absurd h (listD_fault hb hd)
    | ok q =>
      obtain ⟨ys, rest⟩ := q
      rw [hd] at h
      dsimp only at h ⊢
      split at h
      · cases h
      · rename_i h0
        rw [if_neg h0]
        have hr : rest = [] := List.length_eq_zero_iff.1 (by omega)
        subst hr
        obtain ⟨a1, a2, a3, a4⟩ := listD_inv hb hd
        rw [List.append_nil] at a1
        have hc := checkD_of a2 a3
        obtain ⟨b1, _⟩ := enc_ok nameP_len hc (fun y hy => (of_isFront (a4 y hy).1).1)
        refine ⟨hc, a1.symm, by rw [b1, ← a1], fun y hy => ⟨of_isFront (a4 y hy).1, (a4 y hy).2.1, (goodE_each ys [] a3 y hy).1⟩⟩

/-- What Encode leaves. -/
theorem encR_out {ys : List EV} {w w' : World} {e : Ending} (hE : checkD nameP ys = 0 → encS ys = .ok (encB ys)) (h : EncR nameP ys w e w') : Kept (fun _ => False) w w' ∧
    ((checkD nameP ys = 0 ∧ ∃ v', e = .returned (.tuple #[v', .int .i64 0]) ∧ w'.ownsRow w.heap.size 5 1 v' (encB ys).length ((encB ys).map (Value.int .u8))) ∨
     (checkD nameP ys ≠ 0 ∧ e = .returned (.tuple #[.slice none 0 0, .int .i64 (checkD nameP ys)]))) := by
  obtain ⟨hk, h⟩ := h
  refine ⟨hk, ?_⟩
  by_cases hc : checkD nameP ys = 0
  · rw [if_pos hc, hE hc] at h
    exact .inl ⟨hc, h⟩
  · rw [if_neg hc] at h
    exact .inr ⟨hc, h⟩

/-- A row of bytes, as Decode takes it. -/
theorem isR_own {w : World} {base : Nat} {v : Value} {xs : List Int} (h : w.ownsRow base 5 1 v xs.length (xs.map (Value.int .u8))) (hx : xs ≠ []) : ∃ g c, v = .slice (some ⟨g, 0, none⟩) xs.length c ∧ IsR w g v xs ∧ g < w.heap.size ∧ base ≤ g ∧ xs.length ≤ c := by
  have hib := isB_own h
  rcases h.2 with ⟨_, h0⟩ | ⟨g, cap, cur, rfl, hb, hg, hnc, hcm, hcs, ht⟩
  · exact absurd (List.length_eq_zero_iff.1 h0) hx
  · have hp : 0 < xs.length := List.length_pos_iff.2 hx
    refine ⟨g, cap, rfl, .inr ⟨0, cap, rfl, hnc, by omega, hcm, ?_⟩, (Array.getElem?_eq_some_iff.1 hg).1, hb, hnc⟩
    rcases hib with ⟨e, _⟩ | ⟨g', o', c', e, hc⟩
    · exact absurd e hx
    · cases e
      exact hc
end Go.Proofs.YtcpkbajmilkhpaaDoor

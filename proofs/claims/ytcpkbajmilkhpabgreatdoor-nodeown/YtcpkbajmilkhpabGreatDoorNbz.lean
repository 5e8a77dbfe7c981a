/-
  Nbz: Nbm, Nbn.
-/
import Derived.Test.YtcpkbajmilkhpabGreatDoorNen
import Derived.Test.YtcpkbajmilkhpabGreatDoorNdd
import Derived.Test.YtcpkbajmilkhpabGreatDoorNop
import Derived.Test.YtcpkbajmilkhpabGreatDoorNrw
namespace Go.Proofs.YtcpkbajmilkhpabGreatDoor
open Go.RowKit
set_option linter.unusedVariables false
set_option linter.unusedSimpArgs false

theorem be_inj (k : Nat) (a b : Int) (ha0 : 0 ≤ a) (hb0 : 0 ≤ b) (ha : a < (256 : Int) ^ k) (hb : b < (256 : Int) ^ k) (h : Mth.be k a = Mth.be k b) : a = b := by
  have hd : a / (256 : Int) ^ k = b / (256 : Int) ^ k := by rw [Int.ediv_eq_zero_of_lt ha0 ha, Int.ediv_eq_zero_of_lt hb0 hb]
  rcases Int.lt_trichotomy a b with hlt | heq | hgt
  · have := Mth.be_ahead k a b hd hlt
    rw [h] at this
    rw [this.1] at this
    exact absurd this.2 (by simp)
  · exact heq
  · have := Mth.be_ahead k b a hd.symm hgt
    rw [h] at this
    rw [this.1] at this
    exact absurd this.2 (by simp)

theorem formD_form (u : Int) (rest : List Int) (h0 : 0 ≤ u) (h1 : u < 18446744073709551616) : formD (Mth.form u ++ rest) = .ok (u, rest) := by
  unfold Mth.form
  by_cases h : u ≤ 247
  · rw [if_pos h, List.singleton_append, formD_cons, if_pos h]
  · rw [if_neg h, List.cons_append, formD_cons]
    have hs8 := Mth.sz_le u
    have hs1 : 1 ≤ Mth.sz u := by
      rcases Mth.sz_cases u with h2 | h2
      · omega
      · rcases h2 with h2 | h2 | h2 | h2 | h2 | h2 | h2 | h2 <;> omega
    have hl := Mth.be_length (Mth.sz u) u
    have hk : (247 + (Mth.sz u : Int) - 247).toNat = Mth.sz u := by omega
    have hb := be_bval (Mth.sz u) (Mth.be (Mth.sz u) u) hl (Mth.be_byte _ _)
    have hv : bval (Mth.be (Mth.sz u) u) = u := (be_inj (Mth.sz u) u _ h0 hb.1 (Mth.sz_spec u h1) hb.2.1 hb.2.2).symm
    have ht : (Mth.be (Mth.sz u) u ++ rest).take (Mth.sz u) = Mth.be (Mth.sz u) u := by
      rw [List.take_append_of_le_length (by rw [hl]; exact Nat.le_refl _), List.take_of_length_le (by rw [hl]; exact Nat.le_refl _)]
    have hdr : (Mth.be (Mth.sz u) u ++ rest).drop (Mth.sz u) = rest := by
      have := List.drop_left (l₁ := Mth.be (Mth.sz u) u) (l₂ := rest)
      rwa [hl] at this
    rw [if_neg (by omega), hk, if_neg (by rw [List.length_append, hl]; omega), ht, hdr, hv, if_neg (by omega)]

theorem numD_form (u : Int) (rest : List Int) (h0 : 0 ≤ u) (h1 : u ≤ 9223372036854775807) : numD (Mth.form u ++ rest) = .ok (u, rest) := by
  unfold numD
  rw [formD_form u rest h0 (by omega)]
  dsimp only
  rw [if_pos h1]
theorem bytesD_form (xs rest : List Int) (h : xs.length ≤ 9223372036854775807) : bytesD (Mth.form xs.length ++ xs ++ rest) = .ok (xs, rest) := by
  unfold bytesD
  rw [List.append_assoc, numD_form _ _ (by omega) (by omega)]
  dsimp only
  unfold rawD
  rw [if_neg (by omega), if_neg (by rw [List.length_append]; omega), Int.toNat_natCast, List.take_left, List.drop_left]
theorem mostD_form (n u : Int) (rest : List Int) (h0 : 0 ≤ u) (h1 : u ≤ 9223372036854775807) (hn : u ≤ n) : mostD n (Mth.form u ++ rest) = .ok (u, rest) := by
  unfold mostD
  rw [numD_form u rest h0 h1]
  dsimp only
  rw [if_neg (by omega)]

/-- An entry's bytes. -/
def entB (y : EV) : List Int := Mth.form y.k ++ ((Mth.form y.nm.length ++ y.nm) ++ (Mth.form y.fr.length ++ y.fr))
/-- A list's bytes. -/
def entsB (ys : List EV) : List Int := ys.flatMap entB
def encB (ys : List EV) : List Int := Mth.form 1 ++ (Mth.form ys.length ++ entsB ys)

theorem entD_form {P : List Int → Bool} {ah : List Int} {y : EV} (rest : List Int) (hk : y.k = 1 ∨ y.k = 2) (hm : (P y.nm && lessB ah y.nm) = true) (hf : isFrontB y.fr = true) (hl : y.nm.length ≤ 9223372036854775807) (hl2 : y.fr.length ≤ 9223372036854775807) : entD P ah (entB y ++ rest) = .ok (y, rest) := by
  have h1 : numD (entB y ++ rest) = .ok (y.k, (Mth.form y.nm.length ++ y.nm) ++ ((Mth.form y.fr.length ++ y.fr) ++ rest)) := by
    unfold entB
    rw [List.append_assoc, List.append_assoc]
    exact numD_form _ _ (by omega) (by omega)
  have h2 := bytesD_form y.nm ((Mth.form y.fr.length ++ y.fr) ++ rest) hl
  have h3 := bytesD_form y.fr rest hl2
  unfold entD
  rw [h1]
  dsimp only
  rw [if_pos hk, h2]
  dsimp only
  rw [if_pos hm, h3]
  dsimp only
  rw [if_pos hf]

theorem entsD_form {P : List Int → Bool} : ∀ (ys : List EV) (ah rest : List Int), goodE P ah ys = true → (∀ y ∈ ys, isFrontB y.fr = true ∧ y.nm.length ≤ 9223372036854775807) → entsD P ys.length ah (entsB ys ++ rest) = .ok (ys, rest)
  | [], ah, rest, _, _ => rfl
  | y :: ys, ah, rest, hg, hf => by
    rw [goodE, Bool.and_eq_true, Bool.and_eq_true] at hg
    obtain ⟨h1, h2, h3⟩ := hg
    obtain ⟨f1, f2⟩ := hf y (List.mem_cons_self ..)
    have hfl : y.fr.length ≤ 32 := by
      unfold isFrontB at f1
      exact of_decide_eq_true (Bool.and_eq_true_iff.1 f1).1
    have e : entsB (y :: ys) ++ rest = entB y ++ (entsB ys ++ rest) := by simp [entsB, List.flatMap_cons, List.append_assoc]
    rw [List.length_cons, entsD_succ, e, entD_form _ (of_decide_eq_true h1) h2 f1 f2 (by omega)]
    dsimp only
    rw [entsD_form ys y.nm rest h3 (fun z hz => hf z (List.mem_cons_of_mem _ hz))]

theorem listD_form {P : List Int → Bool} (ys : List EV) (rest : List Int) (hn : ys.length ≤ 1024) (hg : goodE P [] ys = true) (hf : ∀ y ∈ ys, isFrontB y.fr = true ∧ y.nm.length ≤ 9223372036854775807) : listD P (encB ys ++ rest) = .ok (ys, rest) := by
  unfold listD encB
  rw [List.append_assoc, numD_form 1 _ (by decide) (by decide)]
  dsimp only
  rw [if_pos rfl, List.append_assoc, mostD_form 1024 _ _ (by omega) (by omega) (by omega)]
  dsimp only
  rw [Int.toNat_natCast]
  exact entsD_form ys [] rest hg hf

theorem bytesD_inv {xs ys rest : List Int} (hb : BytesOk xs) (h : bytesD xs = .ok (ys, rest)) : xs = (Mth.form ys.length ++ ys) ++ rest := by
  unfold bytesD at h
  cases hd : numD xs with
  | error e => rw [hd] at h; cases h
  | ok p =>
    obtain ⟨u, r⟩ := p
    rw [hd] at h
    dsimp only at h
    obtain ⟨hx, h0, _⟩ := numD_split hb.1 hd
    unfold rawD at h
    split at h
    · cases h
    · split at h
      · cases h
      · rename_i h1 h2
        cases h
        have e : (r.take u.toNat).length = u.toNat := by rw [List.length_take]; omega
        rw [hx, e, List.append_assoc, List.take_append_drop, Int.toNat_of_nonneg h0]

theorem entD_inv {P : List Int → Bool} {ah xs rest : List Int} {y : EV} (hb : BytesOk xs) (h : entD P ah xs = .ok (y, rest)) : xs = entB y ++ rest ∧ (y.k = 1 ∨ y.k = 2) ∧ (P y.nm && lessB ah y.nm) = true ∧ isFrontB y.fr = true ∧ BytesOk y.nm ∧ BytesOk rest := by
  unfold entD at h
  cases h1 : numD xs with
  | error e => rw [h1] at h; cases h
  | ok p =>
    obtain ⟨k, r1⟩ := p
    rw [h1] at h
    dsimp only at h
    have hb1 := numD_rest hb h1
    obtain ⟨hx, _⟩ := numD_split hb.1 h1
    split at h
    · rename_i hk
      cases h2 : bytesD r1 with
      | error e => rw [h2] at h; cases h
      | ok p =>
        obtain ⟨nm, r2⟩ := p
        rw [h2] at h
        dsimp only at h
        obtain ⟨hb2, hbn⟩ := bytesD_rest hb1 h2
        have hx2 := bytesD_inv hb1 h2
        split at h
        · rename_i hm
          cases h3 : bytesD r2 with
          | error e => rw [h3] at h; cases h
          | ok p =>
            obtain ⟨b, r3⟩ := p
            rw [h3] at h
            dsimp only at h
            have hx3 := bytesD_inv hb2 h3
            split at h
            · rename_i hf
              cases h
              refine ⟨?_, hk, hm, hf, hbn, (bytesD_rest hb2 h3).1⟩
              rw [hx, hx2, hx3]
              simp [entB, List.append_assoc]
            · cases h
        · cases h
    · cases h

theorem entsD_inv {P : List Int → Bool} : ∀ (n : Nat) {ah xs rest : List Int} {ys : List EV}, BytesOk xs → entsD P n ah xs = .ok (ys, rest) → xs = entsB ys ++ rest ∧ ys.length = n ∧ goodE P ah ys = true ∧ ∀ y ∈ ys, isFrontB y.fr = true ∧ BytesOk y.nm
  | 0, ah, xs, rest, ys, hb, h => by
    rw [show entsD P 0 ah xs = .ok ([], xs) from rfl] at h
    cases h
    exact ⟨rfl, rfl, rfl, by simp⟩
  | n + 1, ah, xs, rest, ys, hb, h => by
    rw [entsD_succ] at h
    cases h1 : entD P ah xs with
    | error f => rw [h1] at h; cases h
    | ok p =>
      obtain ⟨y, r⟩ := p
      rw [h1] at h
      dsimp only at h
      obtain ⟨a1, a2, a3, a4, a5, a6⟩ := entD_inv hb h1
      cases h2 : entsD P n y.nm r with
      | error f => rw [h2] at h; cases h
      | ok q =>
        obtain ⟨zs, r'⟩ := q
        rw [h2] at h
        cases h
        obtain ⟨b1, b2, b3, b4⟩ := entsD_inv n a6 h2
        refine ⟨?_, by rw [List.length_cons, b2], ?_, fun z hz => ?_⟩
        · rw [a1, b1]
          simp [entsB, List.flatMap_cons, List.append_assoc]
        · rw [goodE, decide_eq_true a2, a3, b3]
          rfl
        · rcases List.mem_cons.1 hz with rfl | hz
          · exact ⟨a4, a5⟩
          · exact b4 z hz

theorem listD_inv {P : List Int → Bool} {xs rest : List Int} {ys : List EV} (hb : BytesOk xs) (h : listD P xs = .ok (ys, rest)) : xs = encB ys ++ rest ∧ ys.length ≤ 1024 ∧ goodE P [] ys = true ∧ ∀ y ∈ ys, isFrontB y.fr = true ∧ BytesOk y.nm := by
  unfold listD at h
  cases h1 : numD xs with
  | error f => rw [h1] at h; cases h
  | ok p =>
    obtain ⟨t, r1⟩ := p
    rw [h1] at h
    dsimp only at h
    have hb1 := numD_rest hb h1
    obtain ⟨hx, _⟩ := numD_split hb.1 h1
    split at h
    · rename_i ht
      subst ht
      cases h2 : mostD 1024 r1 with
      | error f => rw [h2] at h; cases h
      | ok q =>
        obtain ⟨n, r2⟩ := q
        rw [h2] at h
        dsimp only at h
        unfold mostD at h2
        cases h3 : numD r1 with
        | error f => rw [h3] at h2; cases h2
        | ok s =>
          obtain ⟨u, r3⟩ := s
          rw [h3] at h2
          dsimp only at h2
          have hb3 := numD_rest hb1 h3
          obtain ⟨hx3, hu0, _⟩ := numD_split hb1.1 h3
          split at h2
          · cases h2
          · cases h2
            obtain ⟨a, b, c, d⟩ := entsD_inv _ hb3 h
            refine ⟨?_, by omega, c, d⟩
            rw [hx, hx3, a, encB, b, Int.toNat_of_nonneg hu0]
            simp [List.append_assoc]
    · cases h

theorem St.ents_ok : ∀ (ys : List EV) (l : List Int), (∀ y ∈ ys, (entB y).length ≤ 101 ∧ 0 ≤ y.k) → l.length + 101 * ys.length ≤ 4194304 → St.ents (.ok l) ys = .ok (l ++ entsB ys)
  | [], l, _, _ => by simp [St.ents, entsB]
  | y :: ys, l, h, hl => by
    rw [List.length_cons] at hl
    obtain ⟨h1, h2⟩ := h y (List.mem_cons_self ..)
    have e : St.ent (.ok l) y = .ok (l ++ entB y) := by
      rw [St.ent, St.num, if_neg (by omega), St.put_put, St.put_put]
      show (if _ then _ else _) = _
      have e2 : Mth.form y.k ++ ((Mth.form ↑y.nm.length ++ y.nm) ++ (Mth.form ↑y.fr.length ++ y.fr)) = entB y := rfl
      rw [e2, if_pos (by omega)]
    rw [St.ents, e, St.ents_ok ys _ (fun z hz => h z (List.mem_cons_of_mem _ hz)) (by rw [List.length_append]; omega)]
    simp [entsB, List.flatMap_cons, List.append_assoc]

theorem entB_len (y : EV) (hk : y.k = 1 ∨ y.k = 2) (hn : y.nm.length ≤ 64) (hf : y.fr.length ≤ 32) : (entB y).length ≤ 101 := by
  have h1 : (Mth.form y.k).length = 1 := by rcases hk with h | h <;> rw [h] <;> rfl
  have h2 : (Mth.form (y.nm.length : Int)).length = 1 := by unfold Mth.form; rw [if_pos (by omega)]; rfl
  have h3 : (Mth.form (y.fr.length : Int)).length = 1 := by unfold Mth.form; rw [if_pos (by omega)]; rfl
  unfold entB
  simp only [List.length_append, h1, h2, h3]
  omega
theorem entsB_len : ∀ ys : List EV, (∀ y ∈ ys, (entB y).length ≤ 101) → (entsB ys).length ≤ 101 * ys.length
  | [], _ => by simp [entsB]
  | y :: ys, h => by
    have := entsB_len ys (fun z hz => h z (List.mem_cons_of_mem _ hz))
    have h1 := h y (List.mem_cons_self ..)
    have e : entsB (y :: ys) = entB y ++ entsB ys := by simp [entsB, List.flatMap_cons]
    rw [e, List.length_append, List.length_cons]
    omega

theorem checkD_of {P : List Int → Bool} {ys : List EV} (h1 : ys.length ≤ 1024) (h2 : goodE P [] ys = true) : checkD P ys = 0 := by
  unfold checkD
  rw [if_neg (by omega), if_pos h2]

/-- What is put of a right list. -/
theorem enc_ok {P : List Int → Bool} {ys : List EV} (hP : ∀ nm, P nm = true → nm.length ≤ 64) (h : checkD P ys = 0) (hf : ∀ y ∈ ys, y.fr.length ≤ 32) : encS ys = .ok (encB ys) ∧ (encB ys).length ≤ 103500 := by
  obtain ⟨hn, hg⟩ := checkD_zero h
  have he := goodE_each ys [] hg
  have hel : ∀ y ∈ ys, (entB y).length ≤ 101 := fun y hy => entB_len y (he y hy).1 (hP _ (he y hy).2) (hf y hy)
  have hl1 : (Mth.form 1).length = 1 := rfl
  have hl2 := Mth.form_length (ys.length : Int) (by omega)
  have hl3 := entsB_len ys hel
  constructor
  · unfold encS
    have e1 : St.num (.ok []) 1 = .ok (Mth.form 1) := rfl
    have e2 : St.num (.ok (Mth.form 1)) (ys.length : Int) = .ok (Mth.form 1 ++ Mth.form ys.length) := by
      rw [St.num, if_neg (by omega)]
      show (if _ then _ else _) = _
      rw [if_pos (by omega)]
    rw [e1, e2, St.ents_ok ys _ (fun y hy => ⟨hel y hy, by rcases (he y hy).1 with h | h <;> omega⟩) (by rw [List.length_append]; omega)]
    simp [encB, List.append_assoc]
  · unfold encB
    rw [List.length_append, List.length_append]
    omega
end Go.Proofs.YtcpkbajmilkhpabGreatDoor

namespace Go.Proofs.YtcpkbajmilkhpabGreatDoor
open Go.RowKit
set_option linter.unusedVariables false
set_option linter.unusedSimpArgs false
set_option maxRecDepth 100000

theorem isFront_of {fr : List Int} (h1 : fr.length ≤ 32) (h2 : endsZ fr = false) : isFrontB fr = true := by
  unfold isFrontB
  rw [decide_eq_true h1, h2]
  rfl
theorem of_isFront {fr : List Int} (h : isFrontB fr = true) : fr.length ≤ 32 ∧ endsZ fr = false := by
  unfold isFrontB at h
  rw [Bool.and_eq_true] at h
  exact ⟨of_decide_eq_true h.1, by simpa using h.2⟩

theorem fr_le (y z : EV) (hy : y.fr.length ≤ 32) (hz : z.fr.length ≤ 32) (hez : endsZ z.fr = false) (h : y.dig = z.dig) : z.fr.length ≤ y.fr.length := by
  rcases Nat.lt_or_ge y.fr.length z.fr.length with hlt | hge
  · exfalso
    have h1 := dig_front z (z.fr.length - 1) (by omega)
    have h2 := dig_zero y (z.fr.length - 1) (by omega)
    rw [h, h1] at h2
    unfold endsZ at hez
    rw [List.getLast?_eq_getElem?, List.getElem?_eq_getElem (by omega)] at hez
    rw [List.getD, List.getElem?_eq_getElem (by omega)] at h2
    simp at h2 hez
    exact hez h2
  · exact hge
theorem eqE_eq (y z : EV) (hy : y.Ok) (hz : z.Ok) (h : eqE y z = true) : y = z := by
  unfold eqE at h
  rw [Bool.and_eq_true, Bool.and_eq_true] at h
  obtain ⟨h1, h2, h3⟩ := h
  have e1 : y.nm = z.nm := by
    rw [str_eq y.nm z.nm hy.nm hz.nm] at h1
    exact of_decide_eq_true h1
  have e2 : y.k = z.k := by simpa using h2
  have e3 : y.dig = z.dig := of_decide_eq_true h3
  have l1 := fr_le y z hy.fr.1 hz.fr.1 hz.fr.2 e3
  have l2 := fr_le z y hz.fr.1 hy.fr.1 hy.fr.2 e3.symm
  have e4 : y.fr = z.fr := by
    have a1 : y.dig.take y.fr.length = y.fr := by rw [EV.dig, List.take_left]
    have a2 : z.dig.take z.fr.length = z.fr := by rw [EV.dig, List.take_left]
    rw [← a1, ← a2, e3, show y.fr.length = z.fr.length by omega]
  cases y
  cases z
  simp_all
theorem sameL_eq : ∀ ys zs : List EV, (∀ y ∈ ys, y.Ok) → (∀ z ∈ zs, z.Ok) → sameL ys zs = true → ys = zs
  | [], [], _, _, _ => rfl
  | [], _ :: _, _, _, h => by cases h
  | _ :: _, [], _, _, h => by cases h
  | y :: ys, z :: zs, hy, hz, h => by
    rw [sameL, Bool.and_eq_true] at h
    rw [eqE_eq y z (hy y (List.mem_cons_self ..)) (hz z (List.mem_cons_self ..)) h.1, sameL_eq ys zs (fun a ha => hy a (List.mem_cons_of_mem _ ha)) (fun a ha => hz a (List.mem_cons_of_mem _ ha)) h.2]

theorem form_byte (u : Int) (h0 : 0 ≤ u) : ∀ x ∈ Mth.form u, 0 ≤ x ∧ x ≤ 255 := by
  intro x hx
  unfold Mth.form at hx
  have hs := Mth.sz_le u
  split at hx
  · simp at hx
    omega
  · rcases List.mem_cons.1 hx with rfl | hx
    · omega
    · exact Mth.be_byte _ _ x hx
theorem entB_byte (y : EV) (hy : y.Ok) (hk : 0 ≤ y.k) : ∀ x ∈ entB y, 0 ≤ x ∧ x ≤ 255 := by
  intro x hx
  unfold entB at hx
  simp only [List.mem_append] at hx
  rcases hx with hx | (hx | hx) | (hx | hx)
  · exact form_byte _ hk x hx
  · exact form_byte _ (by omega) x hx
  · exact hy.nm x hx
  · exact form_byte _ (by omega) x hx
  · exact hy.frb x hx
theorem encB_byte (ys : List EV) (hy : ∀ y ∈ ys, y.Ok) (hk : ∀ y ∈ ys, 0 ≤ y.k) : ∀ x ∈ encB ys, 0 ≤ x ∧ x ≤ 255 := by
  intro x hx
  unfold encB entsB at hx
  simp only [List.mem_append, List.mem_flatMap] at hx
  rcases hx with hx | hx | ⟨y, h1, h2⟩
  · exact form_byte 1 (by decide) x hx
  · exact form_byte _ (by omega) x hx
  · exact entB_byte y (hy y h1) (hk y h1) x h2

/-- What is right of a right list. -/
theorem right_enc {ys : List EV} (hy : ∀ y ∈ ys, y.Ok) (h : checkD nameP ys = 0) : encS ys = .ok (encB ys) ∧ BytesOk (encB ys) ∧ (encB ys).length ≤ 103500 ∧ ∀ rest, listD nameP (encB ys ++ rest) = .ok (ys, rest) := by
  obtain ⟨hn, hg⟩ := checkD_zero h
  have he := goodE_each ys [] hg
  obtain ⟨h1, h2⟩ := enc_ok nameP_len h (fun y hy' => (hy y hy').fr.1)
  refine ⟨h1, ⟨encB_byte ys hy (fun y hy' => by rcases (he y hy').1 with e | e <;> omega), by omega⟩, h2, fun rest => listD_form ys rest hn hg (fun y hy' => ⟨isFront_of (hy y hy').fr.1 (hy y hy').fr.2, ?_⟩)⟩
  have := nameP_len _ (he y hy').2
  omega

theorem right_dec {ys : List EV} (hy : ∀ y ∈ ys, y.Ok) (h : checkD nameP ys = 0) : decK (encB ys) = 0 ∧ decL (encB ys) = ys := by
  obtain ⟨_, _, hl, hd⟩ := right_enc hy h
  have hd0 := hd []
  rw [List.append_nil] at hd0
  unfold decK decL
  rw [if_neg (by omega), if_neg (by omega), hd0]
  exact ⟨rfl, rfl⟩
theorem right_same {ys zs : List EV} (hy : ∀ y ∈ ys, y.Ok) (hz : ∀ z ∈ zs, z.Ok) (h : checkD nameP ys = 0) (h' : checkD nameP zs = 0) : ((str (encB ys)).toList == (str (encB zs)).toList) = sameL ys zs := by
  obtain ⟨_, b1, _, hd⟩ := right_enc hy h
  obtain ⟨_, b2, _, hd'⟩ := right_enc hz h'
  rw [str_eq _ _ b1.1 b2.1]
  by_cases e : encB ys = encB zs
  · have h1 := hd []
    have h2 := hd' []
    rw [e, h2] at h1
    cases h1
    rw [sameL_refl, decide_eq_true rfl]
  · rw [decide_eq_false e]
    cases hs : sameL ys zs with
    | false => rfl
    | true => exact absurd (by rw [sameL_eq ys zs hy hz hs]) e
theorem right_front {ys zs : List EV} (hy : ∀ y ∈ ys, y.Ok) (hz : ∀ z ∈ zs, z.Ok) (h : checkD nameP ys = 0) (h' : checkD nameP zs = 0) (hlt : (encB ys).length < (encB zs).length) : ((str ((encB zs).take (encB ys).length)).toList == (str (encB ys)).toList) = false := by
  obtain ⟨_, b1, _, hd⟩ := right_enc hy h
  obtain ⟨_, b2, _, hd'⟩ := right_enc hz h'
  rw [str_eq _ _ (fun x hx => b2.1 x (List.mem_of_mem_take hx)) b1.1, decide_eq_false]
  intro e
  have hq : encB ys ++ (encB zs).drop (encB ys).length = encB zs := by
    have := List.take_append_drop (encB ys).length (encB zs)
    rw [e] at this
    exact this
  have h1 := hd ((encB zs).drop (encB ys).length)
  have h2 := hd' []
  rw [List.append_nil] at h2
  rw [hq, h2] at h1
  have h3 := congrArg List.length (Prod.mk.inj (Except.ok.inj h1)).2
  rw [List.length_drop] at h3
  simp at h3
  omega
theorem back_enc {xs : List Int} (hb : BytesOk xs) (h : decK xs = 0) : checkD nameP (decL xs) = 0 ∧ encB (decL xs) = xs ∧ encS (decL xs) = .ok xs ∧ ∀ y ∈ decL xs, (y.fr.length ≤ 32 ∧ endsZ y.fr = false) ∧ (∀ x ∈ y.nm, 0 ≤ x ∧ x ≤ 255) ∧ (y.k = 1 ∨ y.k = 2) := by
  unfold decK at h
  unfold decL
  split at h
  · cases h
  · rename_i hl
    rw [if_neg hl]
    cases hd : listD nameP xs with
    | error f =>
      rw [hd] at h
      exact absurd h (listD_fault hb hd)
    | ok q =>
      obtain ⟨ys, rest⟩ := q
      rw [hd] at h
      dsimp only at h ⊢
      split at h
      · cases h
      · rename_i h0
        rw [if_neg h0]
        have hr : rest = [] := List.length_eq_zero_iff.1 (by omega)
        subst hr
        obtain ⟨a1, a2, a3, a4⟩ := listD_inv hb hd
        rw [List.append_nil] at a1
        have hc := checkD_of a2 a3
        obtain ⟨b1, _⟩ := enc_ok nameP_len hc (fun y hy => (of_isFront (a4 y hy).1).1)
        refine ⟨hc, a1.symm, by rw [b1, ← a1], fun y hy => ⟨of_isFront (a4 y hy).1, (a4 y hy).2.1, (goodE_each ys [] a3 y hy).1⟩⟩

/-- What Encode leaves. -/
theorem encR_out {ys : List EV} {w w' : World} {e : Ending} (hE : checkD nameP ys = 0 → encS ys = .ok (encB ys)) (h : EncR nameP ys w e w') : Kept (fun _ => False) w w' ∧
    ((checkD nameP ys = 0 ∧ ∃ v', e = .returned (.tuple #[v', .int .i64 0]) ∧ w'.ownsRow w.heap.size 5 1 v' (encB ys).length ((encB ys).map (Value.int .u8))) ∨
     (checkD nameP ys ≠ 0 ∧ e = .returned (.tuple #[.slice none 0 0, .int .i64 (checkD nameP ys)]))) := by
  obtain ⟨hk, h⟩ := h
  refine ⟨hk, ?_⟩
  by_cases hc : checkD nameP ys = 0
  · rw [if_pos hc, hE hc] at h
    exact .inl ⟨hc, h⟩
  · rw [if_neg hc] at h
    exact .inr ⟨hc, h⟩

/-- A row of bytes, as Decode takes it. -/
theorem isR_own {w : World} {base : Nat} {v : Value} {xs : List Int} (h : w.ownsRow base 5 1 v xs.length (xs.map (Value.int .u8))) (hx : xs ≠ []) : ∃ g c, v = .slice (some ⟨g, 0, none⟩) xs.length c ∧ IsR w g v xs ∧ g < w.heap.size ∧ base ≤ g ∧ xs.length ≤ c := by
  have hib := isB_own h
  rcases h.2 with ⟨_, h0⟩ | ⟨g, cap, cur, rfl, hb, hg, hnc, hcm, hcs, ht⟩
  · exact absurd (List.length_eq_zero_iff.1 h0) hx
  · have hp : 0 < xs.length := List.length_pos_iff.2 hx
    refine ⟨g, cap, rfl, .inr ⟨0, cap, rfl, hnc, by omega, hcm, ?_⟩, (Array.getElem?_eq_some_iff.1 hg).1, hb, hnc⟩
    rcases hib with ⟨e, _⟩ | ⟨g', o', c', e, hc⟩
    · exact absurd e hx
    · cases e
      exact hc
end Go.Proofs.YtcpkbajmilkhpabGreatDoor

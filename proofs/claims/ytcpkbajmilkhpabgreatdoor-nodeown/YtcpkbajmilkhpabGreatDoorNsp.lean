/-
  node.Decode as a pure function; node.nameOf over a Reader's Text.
-/
import Derived.Test.YtcpkbajmilkhpabGreatDoorNfr
namespace Go.Proofs.YtcpkbajmilkhpabGreatDoor
open Go.RowKit
set_option linter.unusedVariables false
set_option linter.unusedSimpArgs false

/-- An entry: its name, its kind, its digest's front. -/
structure EV where
  nm : List Int
  k : Int
  fr : List Int

/-- Is the one text less than the other? -/
def lessB (a b : List Int) : Bool := Op.bytesLess (str a).toList (str b).toList

/-- An entry behind a name, read; or the fault. P: what a name is. -/
def entD (P : List Int → Bool) (ahead xs : List Int) : Except Int (EV × List Int) :=
  match numD xs with
  | .error f => .error f
  | .ok (k, r1) =>
    if k = 1 ∨ k = 2 then
      match bytesD r1 with
      | .error f => .error f
      | .ok (nm, r2) =>
        if (P nm && lessB ahead nm) = true then
          match bytesD r2 with
          | .error f => .error f
          | .ok (b, r3) => if isFrontB b = true then .ok (⟨nm, k, b⟩, r3) else .error 51
        else .error 51
    else .error 51

/-- So many entries. -/
def entsD (P : List Int → Bool) : Nat → List Int → List Int → Except Int (List EV × List Int)
  | 0, _, xs => .ok ([], xs)
  | n + 1, ahead, xs =>
    match entD P ahead xs with
    | .error f => .error f
    | .ok (y, r) =>
      match entsD P n y.nm r with
      | .error f => .error f
      | .ok (ys, r') => .ok (y :: ys, r')

/-- What the function that is handed to Read reads. -/
def listD (P : List Int → Bool) (xs : List Int) : Except Int (List EV × List Int) :=
  match numD xs with
  | .error f => .error f
  | .ok (t, r1) =>
    if t = 1 then
      match mostD 1024 r1 with
      | .error f => .error f
      | .ok (n, r2) => entsD P n.toNat [] r2
    else .error 52

theorem bytesD_bytes {xs ys rest : List Int} (hb : ∀ x ∈ xs, 0 ≤ x ∧ x ≤ 255) (h : bytesD xs = .ok (ys, rest)) : ∀ y ∈ ys, 0 ≤ y ∧ y ≤ 255 := by
  unfold bytesD at h
  cases hd : numD xs with
  | error e => rw [hd] at h; cases h
  | ok p =>
    obtain ⟨u, r⟩ := p
    rw [hd] at h
    dsimp only at h
    obtain ⟨hx, _⟩ := numD_split hb hd
    unfold rawD at h
    split at h
    · cases h
    · split at h
      · cases h
      · cases h
        intro y hy
        exact hb y (by rw [hx]; exact List.mem_append_right _ (List.mem_of_mem_take hy))

/-- What IsName answers, by contract. -/
def NameC (P : List Int → Bool) : Prop :=
  ∀ (ys : List Int) (w : World), (∀ y ∈ ys, 0 ≤ y ∧ y ≤ 255) → Calls Tryz.prog 60 #[.string (str ys)] w fun e w' => e = .returned (.bool (P ys)) ∧ Kept (fun _ => False) w w'

set_option maxRecDepth 100000 in
theorem nameof_none (k : Int) (ah : ByteArray) (fv : Value) (w : World) (hk : ¬ (k = 1 ∨ k = 2)) :
    Calls Tryz.prog 38 #[.int .i64 k, .string ah, fv] w fun e w' => e = .returned (.tuple #[.string ⟨#[]⟩, .bool false]) ∧ w' = w := by
  have h1 : (k == 1) = false := by simp; omega
  have h2 : (k == 2) = false := by simp; omega
  clear hk
  go_enter Tryz.func38, Tryz.ntmps38
  go_wp2
  go_ret2
  exact ⟨rfl, rfl⟩

set_option maxRecDepth 100000 in
set_option maxHeartbeats 1000000 in
theorem nameof_text (P : List Int → Bool) (HP : NameC P) (k : Int) (ahead : List Int) (r g : Nat) (v : Value) (xs : List Int) (w : World) (f : Int) (hk : k = 1 ∨ k = 2) (hr : Rd w r v true f) (hx : IsR w g v xs) (hgr : g ≠ r) (hb : BytesOk xs) :
    Calls Tryz.prog 38 #[.int .i64 k, .string (str ahead), .func (.func 72) #[.pointer (some ⟨r, 0, none⟩)] #[]] w
      (Outs (bytesD xs) r g f w fun ys e w' => e = .returned (.tuple #[.string (str ys), .bool (P ys && lessB ahead ys)])) := by
  have ht := text_x r g v xs w f hr hx hgr (by have := hb.2; omega) hb.1
  cases hd : bytesD xs with
  | error flt =>
    rw [hd] at ht
    have HT := hid_of ht
    clear ht hr hx
    rcases hk with rfl | rfl
    · go_enter Tryz.func38, Tryz.ntmps38
      go_wp2_with fail
      refine HT.out.mono ?_
      rintro e w2 ⟨rfl, h2, h3⟩
      exact ⟨rfl, rfl, h2, h3⟩
    · go_enter Tryz.func38, Tryz.ntmps38
      go_wp2_with fail
      refine HT.out.mono ?_
      rintro e w2 ⟨rfl, h2, h3⟩
      exact ⟨rfl, rfl, h2, h3⟩
  | ok q =>
    obtain ⟨ys, rest⟩ := q
    rw [hd] at ht
    have ht' : Calls Tryz.prog 72 #[.pointer (some ⟨r, 0, none⟩)] w (fun e w' => e = .returned (.string (str ys)) ∧ After w w' r g f rest) := ht
    have HT := hid_of ht'
    clear ht'
    have hyb := bytesD_bytes hb.1 hd
    have HN := hid_of (fun w' => HP ys w' hyb)
    obtain ⟨s, hs⟩ : ∃ s, s = str ys := ⟨_, rfl⟩
    obtain ⟨a, ha⟩ : ∃ a, a = str ahead := ⟨_, rfl⟩
    have HL : Hid (lessB ahead ys = Op.bytesLess a.toList s.toList) := by unfold Hid lessB; rw [hs, ha]
    have HS := hid_of hs
    rw [← hs] at HT HN
    rw [← ha]
    clear ht hr hx hs ha hyb hd
    obtain ⟨b, hpy⟩ : ∃ b, b = P ys := ⟨_, rfl⟩
    have HPY : Hid (P ys = b) := hpy.symm
    rw [← hpy] at HN
    clear hpy
    rcases hk with rfl | rfl
    · cases b
      · go_enter Tryz.func38, Tryz.ntmps38
        go_wp2_with fail
        refine HT.out.mono ?_
        rintro e w2 ⟨rfl, haf⟩
        have HA := hid_of haf
        clear haf HT
        go_wp2_with fail
        refine (HN.out w2).mono ?_
        rintro e w3 ⟨rfl, hk3⟩
        have HA3 : Hid (After w w3 r g f rest) := by
          obtain ⟨v', a1, a2, a3⟩ := HA.out
          exact ⟨v', a1.kept hk3 (fun f => f), a2.kept hk3 (fun f => f), a3.trans (hk3.mono (fun _ _ f => f.elim))⟩
        clear hk3 HN HA
        go_wp2
        go_ret2
        exact ⟨by dsimp only; rw [HL.out, ← HS.out, HPY.out]; first | rfl | simp, HA3.out⟩
      · go_enter Tryz.func38, Tryz.ntmps38
        go_wp2_with fail
        refine HT.out.mono ?_
        rintro e w2 ⟨rfl, haf⟩
        have HA := hid_of haf
        clear haf HT
        go_wp2_with fail
        refine (HN.out w2).mono ?_
        rintro e w3 ⟨rfl, hk3⟩
        have HA3 : Hid (After w w3 r g f rest) := by
          obtain ⟨v', a1, a2, a3⟩ := HA.out
          exact ⟨v', a1.kept hk3 (fun f => f), a2.kept hk3 (fun f => f), a3.trans (hk3.mono (fun _ _ f => f.elim))⟩
        clear hk3 HN HA
        go_wp2
        go_ret2
        exact ⟨by dsimp only; rw [HL.out, ← HS.out, HPY.out]; first | rfl | simp, HA3.out⟩
    · cases b
      · go_enter Tryz.func38, Tryz.ntmps38
        go_wp2_with fail
        refine HT.out.mono ?_
        rintro e w2 ⟨rfl, haf⟩
        have HA := hid_of haf
        clear haf HT
        go_wp2_with fail
        refine (HN.out w2).mono ?_
        rintro e w3 ⟨rfl, hk3⟩
        have HA3 : Hid (After w w3 r g f rest) := by
          obtain ⟨v', a1, a2, a3⟩ := HA.out
          exact ⟨v', a1.kept hk3 (fun f => f), a2.kept hk3 (fun f => f), a3.trans (hk3.mono (fun _ _ f => f.elim))⟩
        clear hk3 HN HA
        go_wp2
        go_ret2
        exact ⟨by dsimp only; rw [HL.out, ← HS.out, HPY.out]; first | rfl | simp, HA3.out⟩
      · go_enter Tryz.func38, Tryz.ntmps38
        go_wp2_with fail
        refine HT.out.mono ?_
        rintro e w2 ⟨rfl, haf⟩
        have HA := hid_of haf
        clear haf HT
        go_wp2_with fail
        refine (HN.out w2).mono ?_
        rintro e w3 ⟨rfl, hk3⟩
        have HA3 : Hid (After w w3 r g f rest) := by
          obtain ⟨v', a1, a2, a3⟩ := HA.out
          exact ⟨v', a1.kept hk3 (fun f => f), a2.kept hk3 (fun f => f), a3.trans (hk3.mono (fun _ _ f => f.elim))⟩
        clear hk3 HN HA
        go_wp2
        go_ret2
        exact ⟨by dsimp only; rw [HL.out, ← HS.out, HPY.out]; first | rfl | simp, HA3.out⟩
end Go.Proofs.YtcpkbajmilkhpabGreatDoor

/-
  node.Decode by contract.
-/
import Derived.Test.YtcpkbajmilkhpabGreatDoorNls
import Derived.Test.YtcpkbajmilkhpabGreatDoorNcl
namespace Go.Proofs.YtcpkbajmilkhpabGreatDoor
open Go.RowKit Go.Deep
set_option linter.unusedVariables false
set_option linter.unusedSimpArgs false

/-- What the function literal of Decode leaves where it faults not. -/
def DcOk (P : List Int → Bool) (xs : List Int) (w0 : World) (lb r : Nat) (n : Nat) (w' : World) : Prop :=
  ∃ (ys : List EV) (rest : List Int) (v' : Value), listD P xs = .ok (ys, rest) ∧ n = rest.length ∧ w'.cell? ⟨lb, 0, none⟩ = some v' ∧ w'.ownsRow w0.heap.size 41 34 v' ys.length (ents ys) ∧ Kept (fun q => q = r ∨ q = lb) w0 w'
def DcBad (P : List Int → Bool) (xs : List Int) (w0 : World) (lb r : Nat) (flt : Int) (w' : World) : Prop := listD P xs = .error flt ∧ Kept (fun q => q = r ∨ q = lb) w0 w'

set_option maxRecDepth 100000 in
set_option maxHeartbeats 1000000 in
theorem decode1_x (P : List Int → Bool) (HP : NameC P) (r g lb p : Nat) (v : Value) (xs : List Int) (w : World) (hr : Rd w r v true 0) (hx : IsR w g v xs) (hgr : g ≠ r) (hgl : g < w.heap.size) (hb : BytesOk xs) (hlb : w.heap[lb]? = some (.cells #[.slice none 0 0] 22 (0, 0))) (hlr : lb ≠ r) (hlg : lb ≠ g) (hp : w.cell? ⟨p, 0, none⟩ = some (.pointer (some ⟨r, 0, none⟩))) (hpr : p ≠ r) (hpl : p ≠ lb) :
    Calls Tryz.prog 30 #[.pointer (some ⟨r, 0, none⟩), .pointer (some ⟨lb, 0, none⟩)] w (LedX r p (DcOk P xs w lb r) (DcBad P xs w lb r) (fun _ _ => False)) := by
  have hE := entries_x P HP r g v xs w 0 hr hx hgr hgl hb
  cases hd : listD P xs with
  | error flt =>
    rw [hd] at hE
    have HE := hid_of hE
    have HD := hid_of hd
    clear hE hd hr hx HP
    go_enter Tryz.func30, Tryz.ntmps30
    go_wp2_with fail
    refine HE.out.mono ?_
    rintro e w2 ⟨rfl, h2, h3⟩
    refine ⟨rfl, .inr (.inl ⟨flt, [], ?_, rfl, h2, h3.cell hp (by omega), HD.out, h3.mono (fun q hq e => .inl e)⟩)⟩
    intro z hz
    cases hz
  | ok q =>
    obtain ⟨ys, rest⟩ := q
    have hE' : Calls Tryz.prog 31 #[.pointer (some ⟨r, 0, none⟩)] w (fun e w' => (∃ v', e = .returned v' ∧ w'.ownsRow w.heap.size 41 34 v' ys.length (ents ys)) ∧ After w w' r g 0 rest) := by rw [hd] at hE; exact hE
    have HE := hid_of hE'
    have HD := hid_of hd
    clear hE hE' hd hr hx HP
    go_enter Tryz.func30, Tryz.ntmps30
    go_wp2_with fail
    refine HE.out.mono ?_
    rintro e w2 ⟨⟨v', rfl, ho⟩, v2, a1, a2, a3⟩
    have hl2 := (a3.block lb (Array.getElem?_eq_some_iff.1 hlb).1 hlr).trans hlb
    have l0 : w2.cell? ⟨lb, 0, none⟩ = some (.slice none 0 0) := by rw [cell_block _ _ _ _ _ _ hl2]; rfl
    have lf := frozen_block _ _ 0 _ _ hl2
    have ll : lb < w2.heap.size := (Array.getElem?_eq_some_iff.1 hl2).1
    obtain ⟨lo, lc, hv'⟩ := ownsRow_shape ho
    have hks := kept_set w2 lb 0 v'
    obtain ⟨ao2, c2, hs2⟩ := a2.shape
    have HQ : Hid (LedX r p (DcOk P xs w lb r) (DcBad P xs w lb r) (fun _ _ => False) (.returned (.tuple #[])) (w2.setCell ⟨lb, 0, none⟩ v')) := by
      refine .inl ⟨rfl, rest.length, ⟨(hks.cell (a3.cell hp hpr) hpl), ao2, c2, true, ?_⟩, ys, rest, v', HD.out, rfl, ?_, ?_, (a3.mono (fun q hq e => .inl e)).step hks (fun q hq e => .inr e)⟩
      · rw [← hs2]; exact a1.kept hks (fun e => hlr e.symm)
      · rw [cell_block _ _ _ _ _ _ (set_block _ _ _ _ _ _ hl2 v')]; rfl
      · exact hks.ownsRow ho (fun q hq e => by have := (ho.lt q hq).1; have := (Array.getElem?_eq_some_iff.1 hlb).1; omega)
    subst hv'
    clear ho a1 a2 a3 hl2 hks hs2 HE HD
    go_wp2
    go_end0
    exact HQ.out
end Go.Proofs.YtcpkbajmilkhpabGreatDoor

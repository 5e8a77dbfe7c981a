/-
  The reference's Pieces, by contract.
-/
import Derived.Test.YthloacakomahaaaRwid
import Derived.Test.YthloacakomahaaaRparts
namespace Go.Proofs.Ythloacakomahaaa
open Go.RowKit
set_option linter.unusedVariables false
set_option linter.unusedSimpArgs false

theorem wid_le {l : List UInt8} (h : l ≠ []) : wid l ≤ l.length := by
  have h0 : 0 < l.length := List.length_pos_iff.2 h
  rw [wid_eq]
  generalize l.length = n at *
  (repeat' split) <;> omega

def strLen : Value → Nat
  | .string b => b.size
  | _ => 0

set_option maxRecDepth 100000 in
set_option maxHeartbeats 2000000 in
theorem rpieces_any (x : List UInt8) (hx : x ≠ []) (hl : x.length ≤ 1099511627776) (w : World) :
    Calls Try.prog 63 #[.string ⟨x.toArray⟩] w fun e w' => ∃ v, e = .returned v ∧ w'.ownsRow w.heap.size 9 1 v (piecesOf x).length (texts (piecesOf x)) ∧ Kept (fun _ => False) w w' := by
  go_enter Try.func63, Try.ntmps63
  go_wp2
  go_loopw [0, 3] (fun sv v wr => ∃ (ds : List (List UInt8)) (y : List UInt8), sv = .string ⟨y.toArray⟩ ∧ wr.ownsRow w.heap.size 9 1 v ds.length (texts ds) ∧ Kept (fun _ => False) w wr ∧ ds.length + y.length ≤ x.length ∧ ((y = [] ∧ piecesOf x = ds) ∨ (y ≠ [] ∧ piecesOf x = ds ++ piecesOf y))) (fun sv _ _ => strLen sv)
  case atStart => exact ⟨[], x, rfl, World.ownsRow_nil _ _ _ _, Kept.refl _ _, by simp, .inr ⟨hx, rfl⟩⟩
  case round =>
    obtain ⟨ds, y, rfl, hown, hkept, hlen, hcase⟩ := hrel
    have HO := hid_of hown
    have HK := hid_of hkept
    clear hown hkept
    rcases hcase with ⟨rfl, hp⟩ | ⟨hy, hp⟩
    · have HP := hid_of hp
      clear hp
      go_wp2
      go_ret
      exact ⟨_, rfl, by rw [HP.out]; exact HO.out, HK.out⟩
    · have HP := hid_of hp
      clear hp
      have hy0 : 0 < y.length := List.length_pos_iff.2 hy
      have hy1 : (0 : Int) < y.length := by omega
      have hw1 := wid_pos y
      have hw2 := wid_le hy
      have HS := hid_of (pieces_step y)
      have HF := hid_of (width_any y hy (by omega))
      obtain ⟨n, hn⟩ : ∃ n, wid y = n := ⟨_, rfl⟩
      rw [hn] at hw1 hw2 HS HF
      clear hn
      have E : (⟨y.toArray⟩ : ByteArray).extract 0 n = ⟨(y.take n).toArray⟩ := bytes_eq (by rw [extract_list]; simp)
      have E2 : (⟨y.toArray⟩ : ByteArray).extract n y.length = ⟨(y.drop n).toArray⟩ := bytes_eq (by rw [extract_list]; simp)
      obtain ⟨v', w', hr, how, ⟨g, cap, rfl⟩, hk'⟩ := app_text _ _ _ _ _ 35 (y.take n) HO.out HK.out.size (by omega)
      have hkk := HK.out.step hk' (fun i hi (h : w.heap.size ≤ i) => absurd hi (by omega))
      have HW := hid_of how
      have HKK := hid_of hkk
      clear how hkk hk'
      have g1 : (0 : Int) ≤ (n : Int) := by omega
      have g2 : (n : Int) ≤ y.length := by omega
      go_wp2_with fail
      refine (HF.out _).mono ?_
      rintro e w1 ⟨rfl, rfl⟩
      go_wp2_with (refine wp_app rfl (.tmp 10) (.tmp 14) 35 35 ?_ _ _ rfl rfl (.slice (some ⟨g, 0, none⟩) (ds.length + 1) cap) w' ?_ ?_; rfl; exact hr)
      refine ⟨⟨ds ++ [y.take n], y.drop n, rfl, by rw [List.length_append]; exact HW.out, HKK.out, by rw [List.length_append, List.length_drop, List.length_singleton]; omega, ?_⟩, ?_⟩
      · have hs := HS.out
        by_cases h : y.length ≤ n
        · rw [if_pos h] at hs
          exact .inl ⟨List.drop_eq_nil_of_le h, by rw [HP.out, hs, List.take_of_length_le h]⟩
        · rw [if_neg h] at hs
          refine .inr ⟨fun e => ?_, by rw [HP.out, hs, List.append_assoc]; rfl⟩
          have := congrArg List.length e
          rw [List.length_drop, List.length_nil] at this
          omega
      · show (y.drop n).length < y.length
        rw [List.length_drop]
        omega
end Go.Proofs.Ythloacakomahaaa

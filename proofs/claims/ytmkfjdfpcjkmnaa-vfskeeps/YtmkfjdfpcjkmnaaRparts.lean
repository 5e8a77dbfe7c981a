/-
  The reference's Parts by contract.
-/
import Derived.Test.YtmkfjdfpcjkmnaaRow
namespace Go.Proofs.Ytmkfjdfpcjkmnaa
open Go.RowKit
set_option linter.unusedVariables false
set_option linter.unusedSimpArgs false

theorem take_more (l : List UInt8) (fr k : Nat) (c : UInt8) (m : List UInt8) (hf : fr ≤ k) (h : l.drop k = c :: m) : l.drop fr = (l.drop fr).take (k - fr) ++ c :: m ∧ (l.drop fr).take (k + 1 - fr) = (l.drop fr).take (k - fr) ++ [c] := by
  have e : (l.drop fr).drop (k - fr) = c :: m := by rw [List.drop_drop, show fr + (k - fr) = k by omega, h]
  constructor
  · rw [← e, List.take_append_drop]
  · rw [show k + 1 - fr = (k - fr) + 1 by omega, List.take_add_one]
    congr 1
    rw [← List.head?_drop, e]
    rfl

set_option maxRecDepth 100000 in
set_option maxHeartbeats 1000000 in
theorem rparts_any (s : ByteArray) (hs : s.size < 8796093022207) (w : World) :
    Calls Try.prog 61 #[.string s] w fun e w' => ∃ v, e = .returned v ∧ w'.ownsRow w.heap.size 9 1 v (partsOf s.data.toList).length (texts (partsOf s.data.toList)) ∧ Kept (fun _ => False) w w' := by
  have hl : s.data.toList.length = s.size := by simp
  by_cases h : s.data.toList = []
  · rw [partsOf, if_pos h]
    rw [← ByteArray.toList_eq] at h
    clear hl
    go_enter Try.func61, Try.ntmps61
    go_wp2
    go_ret
    exact ⟨_, rfl, World.ownsRow_nil _ _ _ _, Kept.refl _ w⟩
  · rw [partsOf, if_neg h]
    rw [← ByteArray.toList_eq] at h
    have h2 : s.toList.isEmpty = false := by simpa using h
    have HL := hid_of hl
    clear hl h
    obtain ⟨l, hld⟩ : ∃ l, l = s.data.toList := ⟨_, rfl⟩
    rw [← hld]
    have HD := hid_of hld
    clear hld
    go_enter Try.func61, Try.ntmps61
    go_wp2
    go_loopw [3, 4, 5] (fun v f i wr => ∃ (ds : List (List UInt8)) (k fr : Nat), wr.ownsRow w.heap.size 9 1 v ds.length (texts ds) ∧ Kept (fun _ => False) w wr ∧ f = .int .i64 fr ∧ i = .int .i64 k ∧ ds.length ≤ fr ∧ fr ≤ k ∧ k ≤ s.size + 1 ∧ ((k ≤ s.size ∧ splitB l = ds ++ splitB (l.drop fr) ∧ ((l.drop fr).take (k - fr)).all (· != 47) = true) ∨ (k = s.size + 1 ∧ splitB l = ds))) (fun _ _ i _ => s.size + 1 - (intOf i).toNat)
    case atStart => exact ⟨[], 0, 0, World.ownsRow_nil _ _ _ _, Kept.refl _ _, rfl, rfl, by simp, by omega, by omega, .inl ⟨by omega, rfl, rfl⟩⟩
    case round =>
      obtain ⟨ds, k, fr, hown, hkept, rfl, rfl, hd, hfk, hk1, hcase⟩ := hrel
      rcases hcase with ⟨hk, hsp, hall⟩ | ⟨hk, hsp⟩
      · have HO := hid_of hown
        have HK := hid_of hkept
        clear hown hkept
        by_cases hlt : k < s.size
        · have hdk := drop_at s k hlt
          rw [← HD.out] at hdk
          obtain ⟨t1, t2⟩ := take_more l fr k _ _ hfk hdk
          have hb0 : (0 : Int) ≤ (k : Int) := by omega
          have hb1 : (k : Int) < s.size := by omega
          by_cases hc : s[k] = 47
          · have d1 : ((s[k].toNat : Int) == 47) = true := by rw [hc]; rfl
            have E : s.extract fr k = ⟨((l.drop fr).take (k - fr)).toArray⟩ := bytes_eq (by rw [extract_list, List.drop_take, ← HD.out])
            obtain ⟨v', w', hr, how, ⟨g, cap, rfl⟩, hk'⟩ := app_text _ _ _ _ _ 61 ((l.drop fr).take (k - fr)) HO.out HK.out.size (by omega)
            rw [← E] at hr
            have hkk := HK.out.step hk' (fun i hi (h : w.heap.size ≤ i) => absurd hi (by omega))
            have HW := hid_of how
            have HKK := hid_of hkk
            clear how hkk hk' E
            have HR : Hid (splitB l = (ds ++ [(l.drop fr).take (k - fr)]) ++ splitB (l.drop (k + 1))) := by
              show _ = _
              rw [hsp, List.append_assoc]
              congr 1
              rw [hc] at t1
              conv => lhs; rw [t1]
              exact split_mid _ _ hall
            clear hsp hall t1 t2 hdk HO HK
            go_wp2_with (refine wp_app rfl (.tmp 24) (.tmp 29) 61 61 ?_ _ _ rfl rfl (.slice (some ⟨g, 0, none⟩) (ds.length + 1) cap) w' ?_ ?_; rfl; exact hr)
            go_roundw
            case rel => exact ⟨ds ++ [(l.drop fr).take (k - fr)], k + 1, k + 1, by rw [List.length_append]; exact HW.out, HKK.out, by go_num, by go_num, by simp; omega, by omega, by omega, .inl ⟨by omega, HR.out, by simp⟩⟩
            case measure => simp [intOf]; omega
          · have d2 : ((s[k].toNat : Int) == 47) = false := by
              simp only [beq_eq_false_iff_ne, ne_eq]
              exact fun e => hc (UInt8.toNat_inj.1 (by show s[k].toNat = 47; omega))
            have HR : Hid (splitB l = ds ++ splitB (l.drop fr) ∧ ((l.drop fr).take (k + 1 - fr)).all (· != 47) = true) := ⟨hsp, by rw [t2, List.all_append, hall]; simpa using hc⟩
            clear hsp hall t1 t2 hdk
            go_wp2
            go_roundw
            case rel => exact ⟨ds, k + 1, fr, HO.out, HK.out, rfl, by go_num, hd, by omega, by omega, .inl ⟨by omega, HR.out⟩⟩
            case measure => simp [intOf]; omega
        · have hke : k = s.size := by omega
          have E : s.extract fr k = ⟨((l.drop fr).take (k - fr)).toArray⟩ := bytes_eq (by rw [extract_list, List.drop_take, ← HD.out])
          obtain ⟨v', w', hr, how, ⟨g, cap, rfl⟩, hk'⟩ := app_text _ _ _ _ _ 61 ((l.drop fr).take (k - fr)) HO.out HK.out.size (by omega)
          rw [← E] at hr
          have hkk := HK.out.step hk' (fun i hi (h : w.heap.size ≤ i) => absurd hi (by omega))
          have HW := hid_of how
          have HKK := hid_of hkk
          clear how hkk hk' E
          have HR : Hid (splitB l = ds ++ [(l.drop fr).take (k - fr)]) := by
            show _ = _
            rw [hsp]
            congr 1
            have e : (l.drop fr).take (k - fr) = l.drop fr := List.take_of_length_le (by rw [List.length_drop, HD.out, HL.out]; omega)
            rw [e] at hall ⊢
            exact split_end _ hall
          clear hsp hall HO HK
          subst hke
          go_wp2_with (refine wp_app rfl (.tmp 24) (.tmp 29) 61 61 ?_ _ _ rfl rfl (.slice (some ⟨g, 0, none⟩) (ds.length + 1) cap) w' ?_ ?_; rfl; exact hr)
          go_roundw
          case rel => exact ⟨ds ++ [(l.drop fr).take (s.size - fr)], s.size + 1, s.size + 1, by rw [List.length_append]; exact HW.out, HKK.out, by go_num, by go_num, by simp; omega, by omega, by omega, .inr ⟨rfl, HR.out⟩⟩
          case measure => simp [intOf]
      · have HO := hid_of hown
        have HK := hid_of hkept
        have HS := hid_of hsp
        clear hown hkept hsp
        subst hk
        go_wp2
        go_ret
        exact ⟨_, rfl, by rw [HS.out]; exact HO.out, HK.out⟩
end Go.Proofs.Ytmkfjdfpcjkmnaa

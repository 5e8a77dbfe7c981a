/-
  The reference's Path, Clean and IsClean by contract.
-/
import Derived.Test.YthloacakomahaaaClean
namespace Go.Proofs.Ythloacakomahaaa
open Go.RowKit
set_option linter.unusedVariables false
set_option linter.unusedSimpArgs false

theorem split_le' : ∀ (l x : List UInt8), x ∈ splitB l → x.length ≤ l.length
  | [], x, h => by
    simp only [splitB, List.mem_singleton] at h
    rw [h]
    simp
  | c :: l, x, h => by
    obtain ⟨p, ps, e⟩ := splitB_some l
    by_cases hc : c = 47
    · rw [(splitB_cons c l).1 hc] at h
      rcases List.mem_cons.1 h with h | h
      · rw [h]; simp
      · have := split_le' l x h
        simp only [List.length_cons]
        omega
    · rw [(splitB_cons c l).2 hc _ _ e] at h
      rcases List.mem_cons.1 h with h | h
      · have := split_le' l p (by rw [e]; simp)
        rw [h]
        simp only [List.length_cons]
        omega
      · have := split_le' l x (by rw [e]; exact List.mem_cons_of_mem _ h)
        simp only [List.length_cons]
        omega
theorem parts_le' (l x : List UInt8) (h : x ∈ partsOf l) : x.length ≤ l.length := by
  rw [partsOf] at h
  split at h
  · cases h
  · exact split_le' l x h

theorem join_more (row : List (List UInt8)) (x : List UInt8) : joinP (row ++ [x]) = if row = [] then x else joinP row ++ 47 :: x := by
  cases row with
  | nil => rw [if_pos rfl, List.nil_append, joinP, Lib.join_one]
  | cons y r =>
    rw [if_neg (by simp), List.cons_append, joinP, joinP, Lib.join_cons, Lib.join_cons, Lib.joinTail, Lib.joinTail, List.map_append, List.flatten_append]
    simp

set_option maxRecDepth 100000 in
set_option maxHeartbeats 1000000 in
theorem rpath_any (row : List (List UInt8)) (v : Value) (B : Nat) (w : World) (ho : w.ownsRow B 9 1 v row.length (texts row)) (hn : row.length ≤ 33) (hN : ∀ y ∈ row, y.length ≤ 16777216) :
    Calls Try.prog 32 #[v] w fun e w' => e = .returned (.string ⟨(joinP row).toArray⟩) ∧ w' = w := by
  obtain ⟨s1, c1, rfl, _, _, hx1⟩ := own_slice ho
  have HX := hid_of hx1
  clear ho hx1
  go_enter Try.func32, Try.ntmps32
  go_wp2
  go_loopw [3, 4] (fun p i wr => ∃ k : Nat, i = .int .i64 k ∧ p = .string ⟨(joinP (row.take k)).toArray⟩ ∧ wr = w ∧ k ≤ row.length ∧ (joinP (row.take k)).length ≤ k * 16777217) (fun _ i _ => row.length - (intOf i).toNat)
  case atStart => exact ⟨0, rfl, rfl, rfl, by omega, by simp [joinP, Lib.join_nil]⟩
  case round =>
    obtain ⟨k, rfl, rfl, rfl, hk, hlen⟩ := hrel
    by_cases h1 : k < row.length
    · obtain ⟨x, hx⟩ : ∃ x, row[k] = x := ⟨_, rfl⟩
      have ex : row[k]? = some x := by rw [List.getElem?_eq_getElem h1, hx]
      obtain ⟨g1, rfl, _, _, hg1⟩ := HX.out k _ (texts_get _ _ _ ex)
      have hxl := hN x (by rw [← hx]; exact List.getElem_mem _)
      have et : row.take (k + 1) = row.take k ++ [x] := by rw [List.take_add_one, ex]; rfl
      have hj := join_more (row.take k) x
      rw [← et] at hj
      have hb0 : (0 : Int) ≤ (k : Int) := by omega
      by_cases hk0 : k = 0
      · subst hk0
        rw [if_pos (by simp)] at hj
        have HJ := hid_of hj
        have e0 : joinP (row.take 0) = [] := rfl
        rw [e0]
        clear hj et hx ex hlen e0
        go_wp2
        refine ⟨⟨1, rfl, ?_, trivial, by omega, ?_⟩, by simp [intOf]; omega⟩
        · rw [HJ.out]
          exact congrArg Value.string (ByteArray.ext (by simp))
        · rw [HJ.out]
          omega
      · rw [if_neg (by rw [List.take_eq_nil_iff]; intro h; rcases h with h | h; exact hk0 h; rw [h] at h1; simp at h1)] at hj
        have HJ := hid_of hj
        clear hj et hx ex
        generalize joinP (row.take k) = jp at *
        have hk1 : (0 : Int) < (k : Int) := by omega
        go_wp2
        refine ⟨⟨k + 1, by go_num, ?_, trivial, by omega, ?_⟩, by simp [intOf]; omega⟩
        · rw [HJ.out]
          exact congrArg Value.string (ByteArray.ext (by simp))
        · rw [HJ.out, List.length_append, List.length_cons, Nat.add_mul]
          omega
    · have e : row.take k = row := List.take_of_length_le (by omega)
      rw [e]
      clear e
      go_wp2
      go_ret
      exact ⟨rfl, rfl⟩

theorem drop_take_eq {α : Type} (l : List α) (k : Nat) (x : α) (h : l[k]? = some x) : l.drop k = x :: l.drop (k + 1) := by
  obtain ⟨hlt, hx⟩ := List.getElem?_eq_some_iff.1 h
  rw [List.drop_eq_getElem_cons hlt, hx]

set_option maxRecDepth 100000 in
set_option maxHeartbeats 1000000 in
theorem risclean_any (s : ByteArray) (hs : s.size ≤ 16777216) (w : World) :
    Calls Try.prog 15 #[.string s] w fun e w' => e = .returned (.bool ((partsOf s.data.toList).all isName && decide ((partsOf s.data.toList).length ≤ 32))) ∧ Kept (fun _ => False) w w' := by
  have HA := hid_of (rparts_any s (by omega))
  have hb : ∀ x ∈ partsOf s.data.toList, x.length ≤ 16777216 := fun x hx => by
    have h1 := parts_le' s.data.toList x hx
    have h2 : s.data.toList.length = s.size := by simp
    omega
  generalize partsOf s.data.toList = l at *
  go_enter Try.func15, Try.ntmps15
  go_wp2_with fail
  refine (HA.out _).mono ?_
  rintro e w1 ⟨v1, rfl, ho1, hk1⟩
  have K1 := hid_of hk1
  obtain ⟨s1, c1, rfl, _, hm1, hx1⟩ := own_slice ho1
  have HX1 := hid_of hx1
  clear HA ho1 hk1 hx1
  have hml : l.length ≤ 9223372036854775807 := by unfold maxLen at hm1; omega
  clear hm1
  go_wp2
  go_loopw [4] (fun i wr => ∃ k : Nat, i = .int .i64 k ∧ wr = w1 ∧ k ≤ l.length ∧ l.all isName = (l.drop k).all isName) (fun i _ => l.length - (intOf i).toNat)
  case atStart => exact ⟨0, rfl, rfl, by omega, rfl⟩
  case round =>
    obtain ⟨k, rfl, rfl, hk, hall⟩ := hrel
    have HL := hid_of hall
    clear hall
    by_cases h1 : k < l.length
    · obtain ⟨x, hx⟩ : ∃ x, l[k] = x := ⟨_, rfl⟩
      have ex : l[k]? = some x := by rw [List.getElem?_eq_getElem h1, hx]
      obtain ⟨g1, rfl, _, _, hg1⟩ := HX1.out k _ (texts_get _ _ _ ex)
      have hxl := hb x (by rw [← hx]; exact List.getElem_mem _)
      have HD := hid_of (drop_take_eq l k x ex)
      have HN := hid_of (rname_any ⟨x.toArray⟩ (show x.length < 2 ^ 62 by omega))
      have hb0 : (0 : Int) ≤ (k : Int) := by omega
      clear hx ex
      cases hnm : isName x with
      | true =>
        rw [show isName (⟨x.toArray⟩ : ByteArray).data.toList = true from hnm] at HN
        go_wp2_with fail
        refine (HN.out _).mono ?_
        rintro e w2 ⟨rfl, rfl⟩
        clear HN
        go_wp2
        go_roundw
        case rel => exact ⟨k + 1, by go_num, by first | rfl | trivial, by omega, by rw [HL.out, HD.out, List.all_cons, hnm, Bool.true_and]⟩
        case measure => simp [intOf]; omega
      | false =>
        rw [show isName (⟨x.toArray⟩ : ByteArray).data.toList = false from hnm] at HN
        have HR : Hid (l.all isName = false) := by
          show _ = _
          rw [HL.out, HD.out, List.all_cons, hnm, Bool.false_and]
        go_wp2_with fail
        refine (HN.out _).mono ?_
        rintro e w2 ⟨rfl, rfl⟩
        clear HN
        go_wp2
        go_ret
        exact ⟨by rw [HR.out]; rfl, K1.out⟩
    · have HR : Hid (l.all isName = true) := by
        show _ = _
        rw [HL.out, List.drop_eq_nil_of_le (by omega)]
        rfl
      go_wp2
      go_ret
      refine ⟨?_, K1.out⟩
      rw [HR.out, Bool.true_and]
      simp
      omega

set_option maxRecDepth 100000 in
set_option maxHeartbeats 2000000 in
theorem rclean_any (s : ByteArray) (w : World) :
    Calls Try.prog 11 #[.string s] w fun e w' => e = .returned (.tuple #[.string ⟨(cleanOf s.data.toList).1.toArray⟩, .int .i64 (cleanOf s.data.toList).2]) ∧ Kept (fun _ => False) w w' := by
  have hl : s.data.toList.length = s.size := by simp
  obtain ⟨c, hcd⟩ : ∃ c, c = cleanOf s.data.toList := ⟨_, rfl⟩
  rw [← hcd]
  have HC := hid_of hcd
  clear hcd
  by_cases h : 4096 < s.size
  · have HE : Hid (c = ([], 2)) := by
      show _ = _
      rw [HC.out, cleanOf, hl, if_pos h]
    go_enter Try.func11, Try.ntmps11
    go_wp2
    exact bodyPost_ret (v := .tuple #[.string ⟨#[]⟩, .int .i64 2]) (by simp [results, Try.results11, go_sem]) rfl ⟨by rw [HE.out], Kept.refl _ _⟩
  have hcd : c = match foldC [] (partsOf s.data.toList) with
      | .error e => ([], e)
      | .ok row => if 32 < row.length then ([], 33) else (joinP row, 0) := by
    rw [HC.out, cleanOf, hl, if_neg h]
    rfl
  have HC := hid_of hcd
  clear hcd
  have HA := hid_of (rparts_any s (by omega))
  have hb : ∀ x ∈ partsOf s.data.toList, x.length ≤ 4096 := fun x hx => by
    have h1 := parts_le' s.data.toList x hx
    omega
  have hpl := parts_len s.data.toList
  rw [hl] at hpl
  clear hl
  generalize partsOf s.data.toList = l at *
  have hll : l.length ≤ 4097 := by omega
  clear hpl
  go_enter Try.func11, Try.ntmps11
  go_wp2_with fail
  refine (HA.out _).mono ?_
  rintro e w1 ⟨v1, rfl, ho1, hk1⟩
  have K1 := hid_of hk1
  obtain ⟨s1, c1, rfl, _, hm1, hx1⟩ := own_slice ho1
  have HX1 := hid_of hx1
  clear HA ho1 hk1 hx1 hm1
  go_wp2
  go_loopw [5, 6] (fun v i wr => ∃ (k : Nat) (row : List (List UInt8)), i = .int .i64 k ∧ wr.ownsRow w1.heap.size 9 1 v row.length (texts row) ∧ Kept (fun _ => False) w1 wr ∧ k ≤ l.length ∧ foldC [] (l.take k) = .ok row) (fun _ i _ => l.length - (intOf i).toNat)
  case atStart => exact ⟨0, [], rfl, World.ownsRow_nil _ _ _ _, Kept.refl _ _, by omega, rfl⟩
  case round =>
    obtain ⟨k, row, rfl, hown, hkept, hk, hf⟩ := hrel
    have HO := hid_of hown
    have HK := hid_of hkept
    have hln : row.length < 8192 := by
      have h1 := foldC_len _ [] row hf
      rw [List.length_take] at h1
      simp only [List.length_nil] at h1
      omega
    have HF := hid_of hf
    clear hown hkept hf
    by_cases h1 : k < l.length
    · obtain ⟨x, hx⟩ : ∃ x, l[k] = x := ⟨_, rfl⟩
      have ex : l[k]? = some x := by rw [List.getElem?_eq_getElem h1, hx]
      obtain ⟨g1, rfl, _, _, hg1⟩ := HX1.out k _ (texts_get _ _ _ ex)
      have hxl := hb x (by rw [← hx]; exact List.getElem_mem _)
      have et : l.take (k + 1) = l.take k ++ [x] := by rw [List.take_add_one, ex]; rfl
      have HT : Hid (foldC [] (l.take (k + 1)) = stepC row x) := by
        show _ = _
        rw [et]
        exact foldC_one _ _ _ _ HF.out
      have HFE : Hid (∀ e, stepC row x = .error e → foldC [] l = .error e) := fun e he => foldC_front (HT.out.trans he) (List.take_prefix _ _)
      have hd1 := HK.out.cell hg1 (fun h => h)
      have HN := hid_of (rname_any ⟨x.toArray⟩ (show x.length < 2 ^ 62 by omega))
      have hb0 : (0 : Int) ≤ (k : Int) := by omega
      clear hx ex et hg1
      by_cases c1 : x = [] ∨ x = [46]
      · have HE : Hid (stepC row x = .ok row) := by
          show _ = _
          rw [stepC, if_pos c1]
        obtain ⟨a, cap, rfl, _, _, _⟩ := own_slice HO.out
        rcases c1 with rfl | rfl
        · go_wp2
          go_roundw
          case rel => exact ⟨k + 1, row, by go_num, HO.out, HK.out, by omega, by rw [HT.out, HE.out]⟩
          case measure => simp [intOf]; omega
        · go_wp2
          go_roundw
          case rel => exact ⟨k + 1, row, by go_num, HO.out, HK.out, by omega, by rw [HT.out, HE.out]⟩
          case measure => simp [intOf]; omega
      by_cases c2 : x = [46, 46]
      · cases hrow : row with
        | nil =>
          have HE : Hid (c = ([], 32)) := by
            show _ = _
            rw [HC.out, HFE.out 32 (by rw [stepC, if_neg c1, if_pos c2, if_pos hrow])]
          have h3 := HO.out
          rw [hrow] at h3
          obtain ⟨a, cap, rfl, _, _, _⟩ := own_slice h3
          subst c2
          clear h3
          go_wp2
          exact bodyPost_ret (v := .tuple #[.string ⟨#[]⟩, .int .i64 32]) (by simp [results, Try.results11, go_sem]) rfl ⟨by rw [HE.out], K1.out.trans HK.out⟩
        | cons y ys =>
          have HE : Hid (stepC row x = .ok row.dropLast) := by
            show _ = _
            rw [stepC, if_neg c1, if_pos c2, if_neg (by rw [hrow]; simp)]
          have h3 := HO.out
          have hl1 : row.length = ys.length + 1 := by rw [hrow]; rfl
          rw [hl1] at h3 hln
          obtain ⟨g, cap, rfl, hcap, hless⟩ := own_less h3
          have HS := hid_of hless
          have HL1 := hid_of hl1
          subst c2
          clear h3 hless hrow hl1
          go_wp2
          go_roundw
          case rel =>
            refine ⟨k + 1, row.dropLast, by go_num, ?_, HK.out, by omega, by rw [HT.out, HE.out]⟩
            have hd : row.dropLast.length = ys.length := by rw [List.length_dropLast, HL1.out]; omega
            rw [hd]
            exact HS.out
          case measure => simp [intOf]; omega
      have e1 : x.isEmpty = false := by
        cases x with
        | nil => exact absurd (.inl rfl) c1
        | cons a b => rfl
      have e2 : (x == [46]) = false := by simpa using fun h => c1 (.inr h)
      have e3 : (x == [46, 46]) = false := by simpa using c2
      cases hnm : isName x with
      | false =>
        have HE : Hid (c = ([], 31)) := by
          show _ = _
          rw [HC.out, HFE.out 31 (by rw [stepC, if_neg c1, if_neg c2, hnm]; rfl)]
        rw [show isName (⟨x.toArray⟩ : ByteArray).data.toList = false from hnm] at HN
        go_wp2_with fail
        refine (HN.out _).mono ?_
        rintro e w2 ⟨rfl, rfl⟩
        clear HN
        go_wp2
        exact bodyPost_ret (v := .tuple #[.string ⟨#[]⟩, .int .i64 31]) (by simp [results, Try.results11, go_sem]) rfl ⟨by rw [HE.out], K1.out.trans HK.out⟩
      | true =>
        have HE : Hid (stepC row x = .ok (row ++ [x])) := by
          show _ = _
          rw [stepC, if_neg c1, if_neg c2, hnm]
          rfl
        rw [show isName (⟨x.toArray⟩ : ByteArray).data.toList = true from hnm] at HN
        obtain ⟨v', w', hr, how, ⟨g, cap, rfl⟩, hk'⟩ := app_text _ _ _ _ _ 35 x HO.out HK.out.size (by omega)
        have HW := hid_of how
        have HKK := hid_of (HK.out.step hk' (fun i hi (h : w1.heap.size ≤ i) => absurd hi (by omega)))
        obtain ⟨a, cap0, rfl, _, _, _⟩ := own_slice HO.out
        clear how hk'
        go_wp2_with fail
        refine (HN.out _).mono ?_
        rintro e w2 ⟨rfl, rfl⟩
        clear HN
        go_wp2_with (refine wp_app rfl (.tmp 18) (.tmp 23) 35 35 ?_ _ _ rfl rfl (.slice (some ⟨g, 0, none⟩) (row.length + 1) cap) w' ?_ ?_; rfl; exact hr)
        go_roundw
        case rel => exact ⟨k + 1, row ++ [x], by go_num, by rw [List.length_append]; exact HW.out, HKK.out, by omega, by rw [HT.out, HE.out]⟩
        case measure => simp [intOf]; omega
    · have e : l.take k = l := List.take_of_length_le (by omega)
      have hf := HF.out
      rw [e] at hf
      have hcd := HC.out
      rw [hf] at hcd
      dsimp only at hcd
      have hnm := foldC_names _ _ _ hf (fun y h => by cases h)
      obtain ⟨a, cap, rfl, _, _, _⟩ := own_slice HO.out
      clear e hf
      by_cases h32 : 32 < row.length
      · rw [if_pos h32] at hcd
        have HE := hid_of hcd
        clear hcd hnm
        go_wp2
        exact bodyPost_ret (v := .tuple #[.string ⟨#[]⟩, .int .i64 33]) (by simp [results, Try.results11, go_sem]) rfl ⟨by rw [HE.out], K1.out.trans HK.out⟩
      · rw [if_neg h32] at hcd
        have HE := hid_of hcd
        have HJ := hid_of (rpath_any row _ _ _ HO.out (by omega) (fun y hy => by
          have := hnm y hy
          simp only [isName, Bool.and_eq_true, decide_eq_true_eq] at this
          omega))
        clear hcd hnm
        generalize joinP row = jr at *
        go_wp2_with fail
        refine HJ.out.mono ?_
        rintro e w2 ⟨rfl, rfl⟩
        clear HJ
        go_wp2
        exact bodyPost_ret (v := .tuple #[.string ⟨jr.toArray⟩, .int .i64 0]) (by simp [results, Try.results11, go_sem]) rfl ⟨by rw [HE.out], K1.out.trans HK.out⟩
end Go.Proofs.Ythloacakomahaaa

/-
  The reference's Less and Under by contract.
-/
import Derived.Test.YtmkfjdfpcjkmnaaRparts
namespace Go.Proofs.Ytmkfjdfpcjkmnaa
open Go.RowKit
set_option linter.unusedVariables false
set_option linter.unusedSimpArgs false

/-- A row of one's own as a slice: its cells. -/
theorem own_slice {w : World} {B : Nat} {e : TypeId} {v : Value} {n : Nat} {xs : List Value} (h : w.ownsRow B e 1 v n xs) : ∃ a cap, v = .slice a n cap ∧ n ≤ cap ∧ cap ≤ maxLen ∧ ∀ j u, xs[j]? = some u → ∃ g, a = some ⟨g, 0, none⟩ ∧ B ≤ g ∧ g < w.heap.size ∧ w.cell? ⟨g, j, none⟩ = some u := by
  rcases h.2 with ⟨rfl, rfl⟩ | ⟨g, cap, cur, rfl, hb, hg, h1, h2, h3, h4⟩
  · refine ⟨none, 0, rfl, Nat.le_refl _, Nat.zero_le _, fun j u hj => ?_⟩
    have := h.1
    rw [Nat.zero_mul, List.length_eq_zero_iff] at this
    rw [this] at hj
    simp at hj
  · refine ⟨some ⟨g, 0, none⟩, cap, rfl, h1, h2, fun j u hj => ⟨g, rfl, hb, (Array.getElem?_eq_some_iff.1 hg).1, ?_⟩⟩
    have := h.cells (g := g) rfl j u hj
    rwa [Addr.add_mid, Nat.zero_add] at this

theorem own_len {w : World} {B : Nat} {e : TypeId} {v : Value} {n : Nat} {xs : List Value} (h : w.ownsRow B e 1 v n xs) : xs.length = n := by
  have := h.1
  omega

theorem texts_get (l : List (List UInt8)) (j : Nat) (x : List UInt8) (h : l[j]? = some x) : (texts l)[j]? = some (.string ⟨x.toArray⟩) := by
  rw [texts, List.getElem?_map, h]
  rfl

theorem ltParts_drop : ∀ (k : Nat) (l m : List (List UInt8)), l.take k = m.take k → k ≤ l.length → k ≤ m.length → ltParts l m = ltParts (l.drop k) (m.drop k)
  | 0, l, m, _, _, _ => rfl
  | k + 1, [], m, _, h, _ => by simp at h
  | k + 1, _ :: _, [], _, _, h => by simp at h
  | k + 1, x :: l, y :: m, h, h1, h2 => by
    rw [List.take_succ_cons, List.take_succ_cons, List.cons.injEq] at h
    rw [ltParts, if_pos h.1, List.drop_succ_cons, List.drop_succ_cons]
    exact ltParts_drop k l m h.2 (by simpa using h1) (by simpa using h2)

theorem toList_mk (x : List UInt8) : (⟨x.toArray⟩ : ByteArray).toList = x := by rw [ByteArray.toList_eq]

set_option maxRecDepth 100000 in
set_option maxHeartbeats 1000000 in
theorem rless_any (a b : ByteArray) (ha : a.size < 8796093022207) (hb : b.size < 8796093022207) (w : World) :
    Calls Try.prog 34 #[.string a, .string b] w fun e w' => e = .returned (.bool (ltParts (partsOf a.data.toList) (partsOf b.data.toList))) ∧ Kept (fun _ => False) w w' := by
  have HA := hid_of (rparts_any a ha)
  have HB := hid_of (rparts_any b hb)
  obtain ⟨l, hl⟩ : ∃ l, l = partsOf a.data.toList := ⟨_, rfl⟩
  obtain ⟨m, hm⟩ : ∃ m, m = partsOf b.data.toList := ⟨_, rfl⟩
  rw [← hl] at HA ⊢
  rw [← hm] at HB ⊢
  clear hl hm
  go_enter Try.func34, Try.ntmps34
  go_wp2_with fail
  refine (HA.out _).mono ?_
  rintro e w1 ⟨v1, rfl, ho1, hk1⟩
  have H1 := hid_of ho1
  have K1 := hid_of hk1
  clear HA ho1 hk1
  go_wp2_with fail
  refine (HB.out _).mono ?_
  rintro e w2 ⟨v2, rfl, ho2, hk2⟩
  have ho1 := hk2.ownsRow H1.out (fun g _ h => h)
  have K2 := hid_of (K1.out.trans hk2)
  have L1 := own_len ho1
  have L2 := own_len ho2
  obtain ⟨s1, c1, rfl, hc1, hm1, hx1⟩ := own_slice ho1
  obtain ⟨s2, c2, rfl, hc2, hm2, hx2⟩ := own_slice ho2
  have HX1 := hid_of hx1
  have HX2 := hid_of hx2
  clear HB H1 K1 ho1 ho2 hk2 hx1 hx2 L1 L2
  have hml : l.length ≤ 9223372036854775807 := by unfold maxLen at hm1; omega
  have hmm : m.length ≤ 9223372036854775807 := by unfold maxLen at hm2; omega
  clear hc1 hm1 hc2 hm2
  go_wp2
  go_loopw [7] (fun i wr => ∃ (k q : Nat), i = .int .i64 k ∧ wr = w2.drewN q ∧ k ≤ l.length ∧ k ≤ m.length ∧ l.take k = m.take k) (fun i _ => l.length - (intOf i).toNat)
  case atStart => exact ⟨0, 0, rfl, rfl, by omega, by omega, rfl⟩
  case round =>
    obtain ⟨k, q, rfl, rfl, hk1, hk2, heq⟩ := hrel
    have HE := hid_of heq
    clear heq
    by_cases h1 : k < l.length
    · by_cases h2 : k < m.length
      · obtain ⟨x, hx⟩ : ∃ x, l[k] = x := ⟨_, rfl⟩
        obtain ⟨y, hy⟩ : ∃ y, m[k] = y := ⟨_, rfl⟩
        have ex : l[k]? = some x := by rw [List.getElem?_eq_getElem h1, hx]
        have ey : m[k]? = some y := by rw [List.getElem?_eq_getElem h2, hy]
        obtain ⟨g1, rfl, _, _, hg1⟩ := HX1.out k _ (texts_get _ _ _ ex)
        obtain ⟨g2, rfl, _, _, hg2⟩ := HX2.out k _ (texts_get _ _ _ ey)
        have d1 : l.drop k = x :: l.drop (k + 1) := by rw [List.drop_eq_getElem_cons h1, hx]
        have d2 : m.drop k = y :: m.drop (k + 1) := by rw [List.drop_eq_getElem_cons h2, hy]
        have HT : Hid (l.take (k + 1) = l.take k ++ [x] ∧ m.take (k + 1) = m.take k ++ [y] ∧ l.drop k = x :: l.drop (k + 1) ∧ m.drop k = y :: m.drop (k + 1)) := ⟨by rw [List.take_add_one, ex]; rfl, by rw [List.take_add_one, ey]; rfl, d1, d2⟩
        clear hx hy ex ey d1 d2
        have hb0 : (0 : Int) ≤ (k : Int) := by omega
        by_cases hxy : x = y
        · subst hxy
          go_wp2
          go_quiet (fail)
          go_wp2
          go_roundw
          case rel => exact ⟨k + 1, _, by go_num, rfl, by omega, by omega, by rw [HT.out.1, HT.out.2.1, HE.out]⟩
          case measure => simp [intOf]; omega
        · have hne : (x == y) = false := by simpa using hxy
          have HR : Hid (ltParts l m = Op.bytesLess x y) := by
            show _ = _
            rw [ltParts_drop k l m HE.out (by omega) (by omega), HT.out.2.2.1, HT.out.2.2.2, ltParts, if_neg hxy]
          go_wp2
          go_quiet (fail)
          go_wp2
          go_quiet (fail)
          go_wp2
          go_ret
          refine ⟨?_, ?_⟩
          · rw [HR.out]
            rfl
          · exact kept_drewN (kept_drewN (kept_drewN K2.out _) _) _
      · have HR : Hid (ltParts l m = false) := by
          show _ = _
          have e : m.drop k = [] := List.drop_eq_nil_of_le (by omega)
          rw [ltParts_drop k l m HE.out (by omega) (by omega), e, List.drop_eq_getElem_cons h1]
          rfl
        have h3 : ¬ l.length < m.length := by omega
        go_wp2
        go_ret
        exact ⟨by rw [HR.out]; rfl, by first | exact kept_drewN K2.out _ | exact kept_drewN (kept_drewN K2.out _) _⟩
    · have HR : Hid (ltParts l m = decide (l.length < m.length)) := by
        show _ = _
        have e : l.drop k = [] := List.drop_eq_nil_of_le (by omega)
        rw [ltParts_drop k l m HE.out (by omega) (by omega), e]
        by_cases h3 : k < m.length
        · rw [List.drop_eq_getElem_cons h3, decide_eq_true (by omega)]
          rfl
        · rw [List.drop_eq_nil_of_le (by omega), decide_eq_false (by omega)]
          rfl
      go_wp2
      go_ret
      refine ⟨?_, kept_drewN K2.out _⟩
      rw [HR.out]
      simp

theorem prefix_drop : ∀ (k : Nat) (l m : List (List UInt8)), l.take k = m.take k → k ≤ l.length → k ≤ m.length → l.isPrefixOf m = (l.drop k).isPrefixOf (m.drop k)
  | 0, l, m, _, _, _ => rfl
  | k + 1, [], m, _, h, _ => by simp at h
  | k + 1, _ :: _, [], _, _, h => by simp at h
  | k + 1, x :: l, y :: m, h, h1, h2 => by
    rw [List.take_succ_cons, List.take_succ_cons, List.cons.injEq] at h
    rw [List.isPrefixOf, h.1, beq_self_eq_true, Bool.true_and, List.drop_succ_cons, List.drop_succ_cons]
    exact prefix_drop k l m h.2 (by simpa using h1) (by simpa using h2)

end Go.Proofs.Ytmkfjdfpcjkmnaa

/-
  path.Less by contract: texts in the order of a tree's walk.
-/
import Derived.Test.YtmkfjdfpcjkmnaaRank
namespace Go.Proofs.Ytmkfjdfpcjkmnaa
open Go.RowKit
set_option linter.unusedVariables false
set_option linter.unusedSimpArgs false

/-- Texts in order, / ahead of all other bytes. -/
def ltP : List UInt8 → List UInt8 → Bool
  | [], [] => false
  | [], _ :: _ => true
  | _ :: _, [] => false
  | a :: l, b :: m => if a = b then ltP l m else decide (rankOf a.toNat < rankOf b.toNat)

theorem drop_at (s : ByteArray) (k : Nat) (h : k < s.size) : s.data.toList.drop k = s[k] :: s.data.toList.drop (k + 1) := by
  rw [List.drop_eq_getElem_cons (by simpa using h)]
  rfl

theorem drew3 (w : World) (p q r : Nat) : ((w.drewN p).drewN q).drewN r = w.drewN (p + q + r) := by
  rw [World.drewN_drewN, World.drewN_drewN, Nat.add_assoc]

theorem ltP_end (l m : List UInt8) (h : l = [] ∨ m = []) : ltP l m = decide (l.length < m.length) := by
  rcases h with rfl | rfl
  · cases m <;> simp [ltP]
  · cases l <;> simp [ltP]

set_option maxRecDepth 100000 in
set_option maxHeartbeats 1000000 in
theorem less_any (a b : ByteArray) (ha : a.size < 2 ^ 62) (hb : b.size < 2 ^ 62) (w : World) :
    Calls Try.prog 54 #[.string a, .string b] w fun e w' => e = .returned (.bool (ltP a.data.toList b.data.toList)) ∧ ∃ q, w' = w.drewN q := by
  have HR := hid_of rank_any
  go_enter Try.func54, Try.ntmps54
  go_wp2
  all_goals
    go_loopw [11] (fun i wr => ∃ k q : Nat, k ≤ a.size ∧ k ≤ b.size ∧ i = .int .i64 k ∧ wr = w.drewN q ∧ ltP a.data.toList b.data.toList = ltP (a.data.toList.drop k) (b.data.toList.drop k)) (fun i _ => a.size - (intOf i).toNat)
    case atStart => exact ⟨0, 0, by omega, by omega, rfl, rfl, rfl⟩
    case round =>
      obtain ⟨k, q, hka, hkb, rfl, rfl, hlt⟩ := hrel
      by_cases hk : k < a.size ∧ k < b.size
      · obtain ⟨h1, h2⟩ := hk
        rw [drop_at a k h1, drop_at b k h2, ltP] at hlt
        have hb0 : (0 : Int) ≤ (k : Int) := by omega
        have hb1 : (k : Int) < a.size := by omega
        have hb2 : (k : Int) < b.size := by omega
        by_cases hxy : a[k] = b[k]
        · rw [if_pos hxy] at hlt
          have HS := hid_of hlt
          clear hlt
          go_wp2
          go_quiet (fail)
          go_wp2
          go_roundw
          case rel => exact ⟨k + 1, _, by omega, by omega, by go_num, rfl, HS.out⟩
          case measure => simp [intOf]; omega
        · rw [if_neg hxy] at hlt
          have HS := hid_of hlt
          clear hlt
          have hne : ((a[k].toNat : Int) == (b[k].toNat : Int)) = false := by
            simp only [beq_eq_false_iff_ne, ne_eq]
            exact fun e => hxy (UInt8.toNat_inj.1 (by omega))
          have HA : Hid (∀ n, Calls Try.prog 77 #[.int .u8 (a[k].toNat : Int)] (w.drewN n) fun e w' => e = .returned (.int .i64 (rankOf (a[k].toNat : Int))) ∧ w' = w.drewN n) := fun n => HR.out _ ⟨by omega, by have := a[k].toNat_lt; omega⟩ _
          have HB : Hid (∀ n, Calls Try.prog 77 #[.int .u8 (b[k].toNat : Int)] (w.drewN n) fun e w' => e = .returned (.int .i64 (rankOf (b[k].toNat : Int))) ∧ w' = w.drewN n) := fun n => HR.out _ ⟨by omega, by have := b[k].toNat_lt; omega⟩ _
          go_wp2
          go_quiet (fail)
          go_wp2
          go_quiet (first | (go_at_call 77; exact (HA.out _).mono (fun _ _ h => ⟨h.1, _, h.2⟩)) | (go_at_call 77; exact (HB.out _).mono (fun _ _ h => ⟨h.1, _, h.2⟩)))
          go_wp2
          go_ret
          exact ⟨by rw [HS.out]; rfl, _, drew3 _ _ _ _⟩
      · have HS : Hid (ltP a.data.toList b.data.toList = decide ((a.size : Int) < b.size)) := by
          rw [hlt, ltP_end]
          · have e1 : (a.data.toList.drop k).length = a.size - k := by simp
            have e2 : (b.data.toList.drop k).length = b.size - k := by simp
            rw [e1, e2]
            apply decide_eq_decide.2
            constructor <;> intro h9 <;> omega
          · by_cases h : k < a.size
            · exact .inr (List.drop_eq_nil_of_le (by simp; omega))
            · exact .inl (List.drop_eq_nil_of_le (by simp; omega))
        clear hlt
        go_wp2
        go_ret
        exact ⟨by rw [HS.out]; simp, q, rfl⟩
end Go.Proofs.Ytmkfjdfpcjkmnaa

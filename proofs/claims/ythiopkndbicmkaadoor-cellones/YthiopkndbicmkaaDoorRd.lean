/-
  The document's float of a number.
-/
import Derived.Test.YthiopkndbicmkaaDoorFg
import Derived.Deep.DeepCutAuto
import Derived.Laws.BitsAllLaws
namespace Go.Proofs.YthiopkndbicmkaaDoor
open Go.RowKit
set_option linter.unusedVariables false
set_option linter.unusedSimpArgs false

theorem run_shrK (P : Program) (w : World) (k yk : IntKind) (hk : k.bits = 64) (a : Int) (n : Nat) (hn : n < 64) : (Op.shift .shr k a yk (n : Int)).run P w = .ok (.int k (a / 2 ^ n)) w := run_shr P w k hk a n hn
theorem run_shlK (P : Program) (w : World) (yk : IntKind) (a : Int) (n : Nat) (hn : n < 64) : (Op.shift .shl .u64 a yk (n : Int)).run P w = .ok (.int .u64 (IntKind.u64.wrap (a * 2 ^ n))) w := by
  have h1 : ¬ ((n : Int) < 0) := by omega
  have h2 : min n 64 = n := by omega
  show (if (n : Int) < 0 then _ else (pure (.int .u64 (IntKind.u64.wrap (a * 2 ^ min (n : Int).toNat 64))) : Sem Value)).run P w = _
  rw [if_neg h1, Int.toNat_natCast, h2]; rfl

/-- The top bit. -/
theorem top_zero (u k : Nat) (h0 : u ≠ 0) (hk : u.log2 < k) : (u : Int) / 2 ^ k = 0 := by
  have : u / 2 ^ k = 0 := Nat.div_eq_of_lt (by
    have h1 : u < 2 ^ (u.log2 + 1) := Nat.lt_log2_self
    have h2 : 2 ^ (u.log2 + 1) ≤ 2 ^ k := Nat.pow_le_pow_right (by decide) (by omega)
    omega)
  have e : (u : Int) / 2 ^ k = ((u / 2 ^ k : Nat) : Int) := by simp
  rw [e, this]; rfl
theorem top_one (u : Nat) (h0 : u ≠ 0) : ((u : Int) / 2 ^ u.log2 == 0) = false := by
  have h1 : 2 ^ u.log2 ≤ u := Nat.log2_self_le h0
  have h2 : 1 ≤ u / 2 ^ u.log2 := (Nat.le_div_iff_mul_le (Nat.two_pow_pos _)).2 (by omega)
  have e : (u : Int) / 2 ^ u.log2 = ((u / 2 ^ u.log2 : Nat) : Int) := by simp
  rw [e]
  simp only [beq_eq_false_iff_ne, ne_eq]
  omega

theorem and_one_u64' (m : Nat) (h : m < 18446744073709551616) : bits .and .u64 (m : Int) 1 = ((m % 2 : Nat) : Int) := by
  have := u64_and_nat m 1 h (by decide)
  rw [show ((1 : Nat) : Int) = 1 from rfl] at this
  rw [this, Nat.and_one_is_mod]

theorem fin_or (neg : Bool) (P m : Int) (hP : 0 ≤ P ∧ P < 2048) (hm : 0 ≤ m) : bits .or .i64 (bits .or .i64 (sgW neg) (P * 4503599627370496)) (bits .and .i64 m 4503599627370495) = sgW neg + (P * 4503599627370496 + m % 4503599627370496) := by
  obtain ⟨p, rfl⟩ : ∃ p : Nat, P = (p : Int) := ⟨P.toNat, by omega⟩
  obtain ⟨q, rfl⟩ : ∃ q : Nat, m = (q : Int) := ⟨m.toNat, by omega⟩
  have e4 : (p : Int) * 4503599627370496 = ((p * 4503599627370496 : Nat) : Int) := by omega
  have e5 : bits .and .i64 (q : Int) 4503599627370495 = ((q % 4503599627370496 : Nat) : Int) := by rw [bits_52]; omega
  rw [e4, e5, or_sign neg _ (by omega), or_low neg _ _ (by omega) (Nat.mod_lt _ (by decide))]
  omega

theorem hi_facts (neg : Bool) (u L : Nat) (h0 : u ≠ 0) (hu : u < 18446744073709551616) (hL : u.log2 = L) (hl : 52 < L) : ∃ m rs hf : Nat, (4503599627370496 ≤ m ∧ m < 9007199254740992) ∧ (rs < 4096 ∧ hf < 4096) ∧ (u : Int) / 2 ^ (L - 52) = (m : Int) ∧
    IntKind.u64.wrap ((u : Int) - IntKind.u64.wrap ((m : Int) * 2 ^ (L - 52))) = (rs : Int) ∧ IntKind.u64.wrap (2 ^ (L - 52 - 1)) = (hf : Int) ∧
    wrap64 ((Ieee.double.nearest neg u 0 : Nat) : Int) = sgW neg + (((1022 + L) * 4503599627370496 + (m + (decide (hf < rs) || (rs == hf && m % 2 == 1)).toNat) : Nat) : Int) := by
  obtain ⟨h1, h2, h3, h4⟩ := near_high neg u h0 hu (by omega)
  rw [hL] at h1 h2 h3 h4
  have hc : 2 ^ (L - 52) ≤ 2 ^ 11 := Nat.pow_le_pow_right (by decide) (by omega)
  have hc1 : 2 ^ (L - 52 - 1) ≤ 2 ^ 10 := Nat.pow_le_pow_right (by decide) (by omega)
  have hr := Nat.mod_lt u (Nat.two_pow_pos (L - 52))
  refine ⟨u / 2 ^ (L - 52), u % 2 ^ (L - 52), 2 ^ (L - 52 - 1), ⟨h2, h3⟩, ⟨by omega, by omega⟩, by simp, ?_, ?_, h1⟩
  · have e : ((u / 2 ^ (L - 52) : Nat) : Int) * 2 ^ (L - 52) = ((u / 2 ^ (L - 52) * 2 ^ (L - 52) : Nat) : Int) := by simp
    rw [e]
    have hd := Nat.div_add_mod u (2 ^ (L - 52))
    rw [Nat.mul_comm] at hd
    generalize u / 2 ^ (L - 52) * 2 ^ (L - 52) = A at *
    generalize u % 2 ^ (L - 52) = B at *
    show ((u : Int) - (A : Int) % 18446744073709551616) % 18446744073709551616 = B
    omega
  · have e : (2 : Int) ^ (L - 52 - 1) = ((2 ^ (L - 52 - 1) : Nat) : Int) := by simp
    rw [e]
    generalize 2 ^ (L - 52 - 1) = B at *
    show (B : Int) % 18446744073709551616 = B
    omega

set_option maxRecDepth 100000 in
set_option maxHeartbeats 2000000 in
theorem tofloat_x (neg : Bool) (a : Int) (u : Nat) (ha : a = if neg then -(u : Int) else (u : Int)) (h0 : u ≠ 0) (hu : u ≤ 9223372036854775808) (hn : neg = false → u < 9223372036854775808) (w : World) :
    Calls Tryd.prog 43 #[.int .i64 a] w fun e w' => e = .returned (.int .i64 (wrap64 ((Ieee.double.nearest neg u 0 : Nat) : Int))) ∧ w' = w := by
  obtain ⟨R, hR⟩ : ∃ R, wrap64 ((Ieee.double.nearest neg u 0 : Nat) : Int) = R := ⟨_, rfl⟩
  rw [hR]
  have a0 : (a == 0) = false := by subst ha; cases neg <;> simp <;> omega
  have a1 : decide (a < 0) = neg := by subst ha; cases neg <;> simp <;> omega
  have a2 : neg = false → IntKind.u64.wrap a = (u : Int) := by
    intro h; subst h; subst ha; show (u : Int) % 18446744073709551616 = u; omega
  have a3 : neg = true → IntKind.u64.wrap (-(IntKind.u64.wrap a)) = (u : Int) := by
    intro h; subst h; subst ha; show (-((-(u : Int)) % 18446744073709551616)) % 18446744073709551616 = u; omega
  have HRR := hid_of hR
  clear hR ha
  have hl63 : u.log2 ≤ 63 := by
    have := (Nat.log2_lt h0 (k := 64)).2 (by omega)
    omega
  have hsg : ∃ sg, sgW neg = sg := ⟨_, rfl⟩
  obtain ⟨sg, hsg⟩ := hsg
  have HSG := hid_of hsg
  have HN := hid_of hn
  have HU := hid_of hu
  clear hn hu
  obtain ⟨L, hL⟩ : ∃ L, u.log2 = L := ⟨_, rfl⟩
  have HZ : Hid (∀ k, L < k → (u : Int) / 2 ^ k = 0) := fun k hk => top_zero u k h0 (by omega)
  have HZ1 : Hid (((u : Int) / 2 ^ L == 0) = false) := by rw [← hL]; exact top_one u h0
  have HLO : Hid (L ≤ 52 → ∃ M : Nat, (4503599627370496 ≤ M ∧ M < 9007199254740992) ∧ IntKind.u64.wrap ((u : Int) * 2 ^ (52 - L)) = (M : Int) ∧ bits .or .i64 (bits .or .i64 (sgW neg) ((1023 + (L : Int)) * 4503599627370496)) (bits .and .i64 (M : Int) 4503599627370495) = R) := by
    intro hl
    obtain ⟨h1, h2, h3⟩ := near_low neg u h0 (by omega)
    rw [hL] at h1 h2 h3
    have e3 : (u : Int) * 2 ^ (52 - L) = ((u * 2 ^ (52 - L) : Nat) : Int) := by simp
    refine ⟨u * 2 ^ (52 - L), ⟨h2, h3⟩, ?_, ?_⟩
    · rw [e3]
      generalize u * 2 ^ (52 - L) = M at *
      show (M : Int) % 18446744073709551616 = M
      omega
    · rw [← HRR.out, h1]
      generalize u * 2 ^ (52 - L) = M at *
      have e4 : (1023 + (L : Int)) * 4503599627370496 = (((1023 + L) * 4503599627370496 : Nat) : Int) := by omega
      have e5 : bits .and .i64 (M : Int) 4503599627370495 = ((M % 4503599627370496 : Nat) : Int) := by rw [bits_52]; omega
      rw [e4, e5, or_sign neg _ (by omega), or_low neg _ _ (by omega) (Nat.mod_lt _ (by decide))]
  have HHI := fun (hl : 52 < L) => hid_of (hi_facts neg u L h0 (by have := HU.out; omega) hL hl)
  have hL63 : L ≤ 63 := by omega
  clear hl63 hL h0
  cases neg
  · have b2 := a2 rfl
    have b3 : sg = 0 := hsg.symm
    subst b3
    clear a2 a3 hsg
    go_enter Tryd.func43, Tryd.ntmps43
    go_wp2
    go_loopw [5] (fun tp wr => ∃ k : Nat, L ≤ k ∧ k ≤ 63 ∧ tp = .int .i64 k ∧ wr = w) (fun tp _ => (intOf tp).toNat)
    case atStart => exact ⟨63, by omega, by omega, rfl, rfl⟩
    case round =>
      obtain ⟨k, hk1, hk2, rfl, rfl⟩ := hrel
      by_cases hkL : L < k
      · have hz := HZ.out k hkL
        go_wp2
        go_roundw
        case rel => exact ⟨k - 1, by omega, by omega, by first | rfl | (congr 1; omega), by first | rfl | trivial⟩
        case measure => simp [intOf]; omega
      · obtain rfl : L = k := by omega
        have hz1 := HZ1.out
        by_cases hl52 : L ≤ 52
        · have hsl := HLO.out hl52
          obtain ⟨M, ⟨hM0, hM1⟩, hM2, hM3⟩ := hsl
          have hl52' : (L : Int) ≤ 52 := by omega
          have HM3 := hid_of hM3
          clear hM3
          go_wp2
          go_ret
          exact ⟨by rw [← HM3.out]; rfl, rfl⟩
        · have hl52' : ¬ ((L : Int) ≤ 52) := by omega
          have hl52'' : decide ((L : Int) ≤ 52) = false := decide_eq_false hl52'
          obtain ⟨m, rs, hf, ⟨m0, m1⟩, ⟨r1, f1⟩, q1, q2, q3, q4⟩ := (HHI (by omega)).out
          have HQ4 : Hid (R = _) := HRR.out.symm.trans q4
          clear q4 HHI
          have hl0 : 52 < L := by omega
          have hand := and_one_u64' m (by omega)
          go_upto_region 18 with fail
          rw [q1, q3]
          clear q1 q2 q3
          have hcase : (hf < rs ∧ Hid ((decide (hf < rs) || (rs == hf && m % 2 == 1)) = true)) ∨ (rs = hf ∧ m % 2 = 1 ∧ Hid ((decide (hf < rs) || (rs == hf && m % 2 == 1)) = true)) ∨
              (rs = hf ∧ m % 2 = 0 ∧ Hid ((decide (hf < rs) || (rs == hf && m % 2 == 1)) = false)) ∨ (rs < hf ∧ Hid ((decide (hf < rs) || (rs == hf && m % 2 == 1)) = false)) := by
            unfold Hid
            by_cases c1 : hf < rs
            · exact Or.inl ⟨c1, by simp [c1]⟩
            · by_cases c2 : rs = hf
              · by_cases c3 : m % 2 = 1
                · exact Or.inr (Or.inl ⟨c2, c3, by simp [c2, c3]⟩)
                · exact Or.inr (Or.inr (Or.inl ⟨c2, by omega, by simp [c2, c3]⟩))
              · exact Or.inr (Or.inr (Or.inr ⟨by omega, by simp [c1, c2]⟩))
          rcases hcase with ⟨d1, du⟩ | ⟨rfl, d3, du⟩ | ⟨rfl, d3, du⟩ | ⟨d1, du⟩
          · have d4 : ((hf : Int) < (rs : Int)) := by omega
            by_cases hm : m + 1 = 9007199254740992
            · obtain rfl : m = 9007199254740991 := by omega
              go_wp2
              go_ret
              refine ⟨congrArg (fun z => Ending.returned (Value.int .i64 z)) ((fin_or false (1023 + (L : Int) + 1) 4503599627370496 (by omega) (by omega)).trans ?_), rfl⟩
              rw [HQ4.out, du.out]
              simp only [Bool.toNat_true]
              omega
            · have hm' : (((m : Int) + 1) / 9007199254740992 == 1) = false := by simp; omega
              go_wp2
              go_ret
              refine ⟨congrArg (fun z => Ending.returned (Value.int .i64 z)) ((fin_or false (1023 + (L : Int)) ((m : Int) + 1) (by omega) (by omega)).trans ?_), rfl⟩
              rw [HQ4.out, du.out]
              simp only [Bool.toNat_true]
              omega
          · rw [d3] at hand; skip
            by_cases hm : m + 1 = 9007199254740992
            · obtain rfl : m = 9007199254740991 := by omega
              go_wp2
              go_ret
              refine ⟨congrArg (fun z => Ending.returned (Value.int .i64 z)) ((fin_or false (1023 + (L : Int) + 1) 4503599627370496 (by omega) (by omega)).trans ?_), rfl⟩
              rw [HQ4.out, du.out]
              simp only [Bool.toNat_true]
              omega
            · have hm' : (((m : Int) + 1) / 9007199254740992 == 1) = false := by simp; omega
              go_wp2
              go_ret
              refine ⟨congrArg (fun z => Ending.returned (Value.int .i64 z)) ((fin_or false (1023 + (L : Int)) ((m : Int) + 1) (by omega) (by omega)).trans ?_), rfl⟩
              rw [HQ4.out, du.out]
              simp only [Bool.toNat_true]
              omega
          · rw [d3] at hand; skip
            have hm' : ((m : Int) / 9007199254740992 == 1) = false := by simp; omega
            go_wp2
            go_ret
            refine ⟨congrArg (fun z => Ending.returned (Value.int .i64 z)) ((fin_or false (1023 + (L : Int)) (m : Int) (by omega) (by omega)).trans ?_), rfl⟩
            rw [HQ4.out, du.out]
            simp only [Bool.toNat_false]
            omega
          · have d4 : ¬ ((hf : Int) < (rs : Int)) := by omega
            have d5 : ¬ ((rs : Int) = (hf : Int)) := by omega
            have d6 : ((rs : Int) == (hf : Int)) = false := by simp; omega
            have d7 : ¬ (hf < rs) := by omega
            have hm' : ((m : Int) / 9007199254740992 == 1) = false := by simp; omega
            go_wp2
            go_ret
            refine ⟨congrArg (fun z => Ending.returned (Value.int .i64 z)) ((fin_or false (1023 + (L : Int)) (m : Int) (by omega) (by omega)).trans ?_), rfl⟩
            rw [HQ4.out, du.out]
            simp only [Bool.toNat_false]
            omega
  · have b2 := a3 rfl
    have b3 : sg = -9223372036854775808 := hsg.symm
    subst b3
    clear a2 a3 hsg
    go_enter Tryd.func43, Tryd.ntmps43
    go_wp2
    go_loopw [5] (fun tp wr => ∃ k : Nat, L ≤ k ∧ k ≤ 63 ∧ tp = .int .i64 k ∧ wr = w) (fun tp _ => (intOf tp).toNat)
    case atStart => exact ⟨63, by omega, by omega, rfl, rfl⟩
    case round =>
      obtain ⟨k, hk1, hk2, rfl, rfl⟩ := hrel
      by_cases hkL : L < k
      · have hz := HZ.out k hkL
        go_wp2
        go_roundw
        case rel => exact ⟨k - 1, by omega, by omega, by first | rfl | (congr 1; omega), by first | rfl | trivial⟩
        case measure => simp [intOf]; omega
      · obtain rfl : L = k := by omega
        have hz1 := HZ1.out
        by_cases hl52 : L ≤ 52
        · have hsl := HLO.out hl52
          obtain ⟨M, ⟨hM0, hM1⟩, hM2, hM3⟩ := hsl
          have hl52' : (L : Int) ≤ 52 := by omega
          have HM3 := hid_of hM3
          clear hM3
          go_wp2
          go_ret
          exact ⟨by rw [← HM3.out]; rfl, rfl⟩
        · have hl52' : ¬ ((L : Int) ≤ 52) := by omega
          have hl52'' : decide ((L : Int) ≤ 52) = false := decide_eq_false hl52'
          obtain ⟨m, rs, hf, ⟨m0, m1⟩, ⟨r1, f1⟩, q1, q2, q3, q4⟩ := (HHI (by omega)).out
          have HQ4 : Hid (R = _) := HRR.out.symm.trans q4
          clear q4 HHI
          have hl0 : 52 < L := by omega
          have hand := and_one_u64' m (by omega)
          go_upto_region 18 with fail
          rw [q1, q3]
          clear q1 q2 q3
          have hcase : (hf < rs ∧ Hid ((decide (hf < rs) || (rs == hf && m % 2 == 1)) = true)) ∨ (rs = hf ∧ m % 2 = 1 ∧ Hid ((decide (hf < rs) || (rs == hf && m % 2 == 1)) = true)) ∨
              (rs = hf ∧ m % 2 = 0 ∧ Hid ((decide (hf < rs) || (rs == hf && m % 2 == 1)) = false)) ∨ (rs < hf ∧ Hid ((decide (hf < rs) || (rs == hf && m % 2 == 1)) = false)) := by
            unfold Hid
            by_cases c1 : hf < rs
            · exact Or.inl ⟨c1, by simp [c1]⟩
            · by_cases c2 : rs = hf
              · by_cases c3 : m % 2 = 1
                · exact Or.inr (Or.inl ⟨c2, c3, by simp [c2, c3]⟩)
                · exact Or.inr (Or.inr (Or.inl ⟨c2, by omega, by simp [c2, c3]⟩))
              · exact Or.inr (Or.inr (Or.inr ⟨by omega, by simp [c1, c2]⟩))
          rcases hcase with ⟨d1, du⟩ | ⟨rfl, d3, du⟩ | ⟨rfl, d3, du⟩ | ⟨d1, du⟩
          · have d4 : ((hf : Int) < (rs : Int)) := by omega
            by_cases hm : m + 1 = 9007199254740992
            · obtain rfl : m = 9007199254740991 := by omega
              go_wp2
              go_ret
              refine ⟨congrArg (fun z => Ending.returned (Value.int .i64 z)) ((fin_or true (1023 + (L : Int) + 1) 4503599627370496 (by omega) (by omega)).trans ?_), rfl⟩
              rw [HQ4.out, du.out]
              simp only [Bool.toNat_true]
              omega
            · have hm' : (((m : Int) + 1) / 9007199254740992 == 1) = false := by simp; omega
              go_wp2
              go_ret
              refine ⟨congrArg (fun z => Ending.returned (Value.int .i64 z)) ((fin_or true (1023 + (L : Int)) ((m : Int) + 1) (by omega) (by omega)).trans ?_), rfl⟩
              rw [HQ4.out, du.out]
              simp only [Bool.toNat_true]
              omega
          · rw [d3] at hand; skip
            by_cases hm : m + 1 = 9007199254740992
            · obtain rfl : m = 9007199254740991 := by omega
              go_wp2
              go_ret
              refine ⟨congrArg (fun z => Ending.returned (Value.int .i64 z)) ((fin_or true (1023 + (L : Int) + 1) 4503599627370496 (by omega) (by omega)).trans ?_), rfl⟩
              rw [HQ4.out, du.out]
              simp only [Bool.toNat_true]
              omega
            · have hm' : (((m : Int) + 1) / 9007199254740992 == 1) = false := by simp; omega
              go_wp2
              go_ret
              refine ⟨congrArg (fun z => Ending.returned (Value.int .i64 z)) ((fin_or true (1023 + (L : Int)) ((m : Int) + 1) (by omega) (by omega)).trans ?_), rfl⟩
              rw [HQ4.out, du.out]
              simp only [Bool.toNat_true]
              omega
          · rw [d3] at hand; skip
            have hm' : ((m : Int) / 9007199254740992 == 1) = false := by simp; omega
            go_wp2
            go_ret
            refine ⟨congrArg (fun z => Ending.returned (Value.int .i64 z)) ((fin_or true (1023 + (L : Int)) (m : Int) (by omega) (by omega)).trans ?_), rfl⟩
            rw [HQ4.out, du.out]
            simp only [Bool.toNat_false]
            omega
          · have d4 : ¬ ((hf : Int) < (rs : Int)) := by omega
            have d5 : ¬ ((rs : Int) = (hf : Int)) := by omega
            have d6 : ((rs : Int) == (hf : Int)) = false := by simp; omega
            have d7 : ¬ (hf < rs) := by omega
            have hm' : ((m : Int) / 9007199254740992 == 1) = false := by simp; omega
            go_wp2
            go_ret
            refine ⟨congrArg (fun z => Ending.returned (Value.int .i64 z)) ((fin_or true (1023 + (L : Int)) (m : Int) (by omega) (by omega)).trans ?_), rfl⟩
            rw [HQ4.out, du.out]
            simp only [Bool.toNat_false]
            omega
end Go.Proofs.YthiopkndbicmkaaDoor

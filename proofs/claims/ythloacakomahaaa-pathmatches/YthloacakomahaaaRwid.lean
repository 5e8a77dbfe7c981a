/-
  The reference's width, by contract.
-/
import Derived.Test.YthloacakomahaaaPwid
import Derived.Test.YthloacakomahaaaLess
namespace Go.Proofs.Ythloacakomahaaa
open Go.RowKit
set_option linter.unusedVariables false
set_option linter.unusedSimpArgs false

theorem follows_any (b : Nat) (hb : b < 256) (w : World) : Calls Try.prog 82 #[.int .u8 b] w fun e w' => e = .returned (.bool (fo b)) ∧ w' = w := by
  by_cases h1 : 128 ≤ b
  · by_cases h2 : b ≤ 191
    · have e : fo b = true := decide_eq_true ⟨h1, h2⟩
      have g1 : (128 : Int) ≤ (b : Int) := by omega
      have g2 : (b : Int) ≤ 191 := by omega
      have HE := hid_of e
      clear e
      go_enter Try.func82, Try.ntmps82
      go_wp2
      go_ret
      exact ⟨by rw [HE.out]; simp [g1, g2], rfl⟩
    · have e : fo b = false := decide_eq_false (fun h => h2 h.2)
      have g1 : (128 : Int) ≤ (b : Int) := by omega
      have g2 : ¬ (b : Int) ≤ 191 := by omega
      have HE := hid_of e
      clear e
      go_enter Try.func82, Try.ntmps82
      go_wp2
      go_ret
      exact ⟨by rw [HE.out]; simp [g1, g2], rfl⟩
  · have e : fo b = false := decide_eq_false (fun h => h1 h.1)
    have g1 : ¬ (128 : Int) ≤ (b : Int) := by omega
    have HE := hid_of e
    clear e
    go_enter Try.func82, Try.ntmps82
    go_wp2
    go_ret
    exact ⟨by rw [HE.out]; simp [g1], rfl⟩

theorem at_bt (x : List UInt8) (k : Nat) (h : k < (⟨x.toArray⟩ : ByteArray).size) : ((⟨x.toArray⟩ : ByteArray)[k]'h).toNat = bt x k := by
  show (x[k]'h).toNat = _
  rw [bt, ← List.getElem_eq_getD (h := h)]
theorem bt_lt (x : List UInt8) (k : Nat) : bt x k < 256 := UInt8.toNat_lt _

set_option maxRecDepth 100000 in
set_option maxHeartbeats 4000000 in
theorem width_any (x : List UInt8) (hx : x ≠ []) (hxl : x.length ≤ 1099511627776) (w : World) :
    Calls Try.prog 73 #[.string ⟨x.toArray⟩] w fun e w' => e = .returned (.int .i64 (wid x : Nat)) ∧ w' = w := by
  have h0 : 0 < x.length := List.length_pos_iff.2 hx
  have e0 := at_bt x 0 h0
  have b0 := bt_lt x 0
  have HF := hid_of follows_any
  obtain ⟨c, hc⟩ : ∃ c, bt x 0 = c := ⟨_, rfl⟩
  rw [hc] at e0 b0
  have HC := hid_of hc
  clear hc
  by_cases c2 : 194 ≤ c ∧ c ≤ 223
  case pos =>
    have HA : Hid (asks c = 2) := by
      show asks c = 2
      unfold asks
      simp [c2]
    have g194 : (194 : Int) ≤ (c : Int) := by omega
    have g223 : (c : Int) ≤ 223 := by omega
    by_cases hl : x.length < 2
    · have hl' : (x.length : Int) < 2 := by omega
      have HW : Hid (wid x = 1) := wid_short (by rw [HC.out, HA.out]; exact hl)
      go_enter Try.func73, Try.ntmps73
      go_wp2
      go_ret
      exact ⟨by rw [HW.out]; rfl, rfl⟩
    have hl' : ¬ (x.length : Int) < 2 := by omega
    go_enter Try.func73, Try.ntmps73
    go_wp2
    go_loopw [5] (fun i wr => ∃ p : Nat, i = .int .i64 p ∧ wr = w ∧ 1 ≤ p ∧ p ≤ 2 ∧ ∀ j, 1 ≤ j → j < p → fo (bt x j) = true) (fun i _ => 2 - (intOf i).toNat)
    case atStart => exact ⟨1, rfl, rfl, by omega, by omega, fun j h1 h2 => by omega⟩
    case round =>
      obtain ⟨p, rfl, rfl, hp1, hp2, hall⟩ := hrel
      have HL := hid_of hall
      clear hall
      by_cases hp : p < 2
      · have hb0' : (0 : Int) ≤ (p : Int) := by omega
        have hpl : p < x.length := by omega
        have ep := at_bt x p hpl
        obtain ⟨d, hd⟩ : ∃ d, bt x p = d := ⟨_, rfl⟩
        have hd2 : d < 256 := hd ▸ bt_lt x p
        rw [hd] at ep
        have HD := hid_of hd
        clear hd
        go_wp2_with fail
        refine (HF.out d hd2 _).mono ?_
        rintro e w1 ⟨rfl, rfl⟩
        cases hf : fo d with
        | false =>
          have HW : Hid (wid x = 1) := wid_stop (i := p) hp1 (by rw [HC.out, HA.out]; exact hp) (by rw [HD.out]; exact hf)
          go_wp2
          go_ret
          exact ⟨by rw [HW.out]; rfl, rfl⟩
        | true =>
          have HN : Hid (∀ j, 1 ≤ j → j < p + 1 → fo (bt x j) = true) := fun j h1 h2 => by
            by_cases e : j = p
            · rw [e, HD.out]; exact hf
            · exact HL.out j h1 (by omega)
          go_wp2
          exact ⟨⟨p + 1, rfl, trivial, by omega, hp, HN.out⟩, by simp [intOf]; omega⟩
      obtain rfl : p = 2 := by omega
      have HD1 : Hid (bt x 1 = bt x 1) := rfl
      have HW : Hid (wid x = 2) := (wid_full (by rw [HC.out, HA.out]; omega) (fun i h1 h2 => HL.out i h1 (by rw [HC.out, HA.out] at h2; exact h2)) (by rw [HC.out, HD1.out]; unfold off2; omega) (by rw [HC.out]; exact b0)).trans (by rw [HC.out]; exact HA.out)
      go_wp2
      go_ret
      exact ⟨by rw [HW.out]; rfl, rfl⟩
  by_cases c3 : 224 ≤ c ∧ c ≤ 239
  case pos =>
    have HA : Hid (asks c = 3) := by
      show asks c = 3
      unfold asks
      simp [c2, c3]
    have z1 : ¬ (c : Int) ≤ 223 := by omega
    have z2 : (194 : Int) ≤ (c : Int) := by omega
    have g224 : (224 : Int) ≤ (c : Int) := by omega
    have g239 : (c : Int) ≤ 239 := by omega
    by_cases hl : x.length < 3
    · have hl' : (x.length : Int) < 3 := by omega
      have HW : Hid (wid x = 1) := wid_short (by rw [HC.out, HA.out]; exact hl)
      go_enter Try.func73, Try.ntmps73
      go_wp2
      go_ret
      exact ⟨by rw [HW.out]; rfl, rfl⟩
    have hl' : ¬ (x.length : Int) < 3 := by omega
    go_enter Try.func73, Try.ntmps73
    go_wp2
    go_loopw [5] (fun i wr => ∃ p : Nat, i = .int .i64 p ∧ wr = w ∧ 1 ≤ p ∧ p ≤ 3 ∧ ∀ j, 1 ≤ j → j < p → fo (bt x j) = true) (fun i _ => 3 - (intOf i).toNat)
    case atStart => exact ⟨1, rfl, rfl, by omega, by omega, fun j h1 h2 => by omega⟩
    case round =>
      obtain ⟨p, rfl, rfl, hp1, hp2, hall⟩ := hrel
      have HL := hid_of hall
      clear hall
      by_cases hp : p < 3
      · have hb0' : (0 : Int) ≤ (p : Int) := by omega
        have hpl : p < x.length := by omega
        have ep := at_bt x p hpl
        obtain ⟨d, hd⟩ : ∃ d, bt x p = d := ⟨_, rfl⟩
        have hd2 : d < 256 := hd ▸ bt_lt x p
        rw [hd] at ep
        have HD := hid_of hd
        clear hd
        go_wp2_with fail
        refine (HF.out d hd2 _).mono ?_
        rintro e w1 ⟨rfl, rfl⟩
        cases hf : fo d with
        | false =>
          have HW : Hid (wid x = 1) := wid_stop (i := p) hp1 (by rw [HC.out, HA.out]; exact hp) (by rw [HD.out]; exact hf)
          go_wp2
          go_ret
          exact ⟨by rw [HW.out]; rfl, rfl⟩
        | true =>
          have HN : Hid (∀ j, 1 ≤ j → j < p + 1 → fo (bt x j) = true) := fun j h1 h2 => by
            by_cases e : j = p
            · rw [e, HD.out]; exact hf
            · exact HL.out j h1 (by omega)
          go_wp2
          exact ⟨⟨p + 1, rfl, trivial, by omega, hp, HN.out⟩, by simp [intOf]; omega⟩
      obtain rfl : p = 3 := by omega
      have h1l : 1 < x.length := by omega
      have e1 := at_bt x 1 h1l
      obtain ⟨d1, hd1⟩ : ∃ d, bt x 1 = d := ⟨_, rfl⟩
      rw [hd1] at e1
      have HD1 := hid_of hd1
      clear hd1
      have q224 : ((c : Int) == 224) = decide (c = 224) := by
        rw [Bool.eq_iff_iff, beq_iff_eq, decide_eq_true_iff]
        omega
      have q237 : ((c : Int) == 237) = decide (c = 237) := by
        rw [Bool.eq_iff_iff, beq_iff_eq, decide_eq_true_iff]
        omega
      have q240 : ((c : Int) == 240) = decide (c = 240) := by
        rw [Bool.eq_iff_iff, beq_iff_eq, decide_eq_true_iff]
        omega
      have q244 : ((c : Int) == 244) = decide (c = 244) := by
        rw [Bool.eq_iff_iff, beq_iff_eq, decide_eq_true_iff]
        omega
      by_cases m224 : c = 224
      · by_cases r224 : d1 < 160
        · have r' : (d1 : Int) < 160 := by omega
          simp only [m224] at q224 q237 q240 q244
          have HW : Hid (wid x = 1) := wid_off (by rw [HC.out, HD1.out]; unfold off2; omega) (bt_lt x 1)
          go_wp2
          go_ret
          exact ⟨by rw [HW.out]; rfl, rfl⟩
        · have r' : ¬ (d1 : Int) < 160 := by omega
          simp only [m224] at q224 q237 q240 q244
          have HW : Hid (wid x = 3) := (wid_full (by rw [HC.out, HA.out]; omega) (fun i h1 h2 => HL.out i h1 (by rw [HC.out, HA.out] at h2; exact h2)) (by rw [HC.out, HD1.out]; unfold off2; omega) (by rw [HC.out]; exact b0)).trans (by rw [HC.out]; exact HA.out)
          go_wp2
          go_ret
          exact ⟨by rw [HW.out]; rfl, rfl⟩
      by_cases m237 : c = 237
      · by_cases r237 : 159 < d1
        · have r' : (159 : Int) < (d1 : Int) := by omega
          simp only [m237] at q224 q237 q240 q244
          have HW : Hid (wid x = 1) := wid_off (by rw [HC.out, HD1.out]; unfold off2; omega) (bt_lt x 1)
          go_wp2
          go_ret
          exact ⟨by rw [HW.out]; rfl, rfl⟩
        · have r' : ¬ (159 : Int) < (d1 : Int) := by omega
          simp only [m237] at q224 q237 q240 q244
          have HW : Hid (wid x = 3) := (wid_full (by rw [HC.out, HA.out]; omega) (fun i h1 h2 => HL.out i h1 (by rw [HC.out, HA.out] at h2; exact h2)) (by rw [HC.out, HD1.out]; unfold off2; omega) (by rw [HC.out]; exact b0)).trans (by rw [HC.out]; exact HA.out)
          go_wp2
          go_ret
          exact ⟨by rw [HW.out]; rfl, rfl⟩
      have p224 : ((c : Int) == 224) = false := by rw [beq_eq_false_iff_ne]; omega
      have p237 : ((c : Int) == 237) = false := by rw [beq_eq_false_iff_ne]; omega
      have p240 : ((c : Int) == 240) = false := by rw [beq_eq_false_iff_ne]; omega
      have p244 : ((c : Int) == 244) = false := by rw [beq_eq_false_iff_ne]; omega
      clear q224 q237 q240 q244
      have HW : Hid (wid x = 3) := (wid_full (by rw [HC.out, HA.out]; omega) (fun i h1 h2 => HL.out i h1 (by rw [HC.out, HA.out] at h2; exact h2)) (by rw [HC.out, HD1.out]; unfold off2; omega) (by rw [HC.out]; exact b0)).trans (by rw [HC.out]; exact HA.out)
      go_wp2
      go_ret
      exact ⟨by rw [HW.out]; rfl, rfl⟩
  by_cases c4 : 240 ≤ c ∧ c ≤ 244
  case pos =>
    have HA : Hid (asks c = 4) := by
      show asks c = 4
      unfold asks
      simp [c2, c3, c4]
    have z1 : ¬ (c : Int) ≤ 223 := by omega
    have z2 : (194 : Int) ≤ (c : Int) := by omega
    have z3 : ¬ (c : Int) ≤ 239 := by omega
    have z4 : (224 : Int) ≤ (c : Int) := by omega
    have g240 : (240 : Int) ≤ (c : Int) := by omega
    have g244 : (c : Int) ≤ 244 := by omega
    by_cases hl : x.length < 4
    · have hl' : (x.length : Int) < 4 := by omega
      have HW : Hid (wid x = 1) := wid_short (by rw [HC.out, HA.out]; exact hl)
      go_enter Try.func73, Try.ntmps73
      go_wp2
      go_ret
      exact ⟨by rw [HW.out]; rfl, rfl⟩
    have hl' : ¬ (x.length : Int) < 4 := by omega
    go_enter Try.func73, Try.ntmps73
    go_wp2
    go_loopw [5] (fun i wr => ∃ p : Nat, i = .int .i64 p ∧ wr = w ∧ 1 ≤ p ∧ p ≤ 4 ∧ ∀ j, 1 ≤ j → j < p → fo (bt x j) = true) (fun i _ => 4 - (intOf i).toNat)
    case atStart => exact ⟨1, rfl, rfl, by omega, by omega, fun j h1 h2 => by omega⟩
    case round =>
      obtain ⟨p, rfl, rfl, hp1, hp2, hall⟩ := hrel
      have HL := hid_of hall
      clear hall
      by_cases hp : p < 4
      · have hb0' : (0 : Int) ≤ (p : Int) := by omega
        have hpl : p < x.length := by omega
        have ep := at_bt x p hpl
        obtain ⟨d, hd⟩ : ∃ d, bt x p = d := ⟨_, rfl⟩
        have hd2 : d < 256 := hd ▸ bt_lt x p
        rw [hd] at ep
        have HD := hid_of hd
        clear hd
        go_wp2_with fail
        refine (HF.out d hd2 _).mono ?_
        rintro e w1 ⟨rfl, rfl⟩
        cases hf : fo d with
        | false =>
          have HW : Hid (wid x = 1) := wid_stop (i := p) hp1 (by rw [HC.out, HA.out]; exact hp) (by rw [HD.out]; exact hf)
          go_wp2
          go_ret
          exact ⟨by rw [HW.out]; rfl, rfl⟩
        | true =>
          have HN : Hid (∀ j, 1 ≤ j → j < p + 1 → fo (bt x j) = true) := fun j h1 h2 => by
            by_cases e : j = p
            · rw [e, HD.out]; exact hf
            · exact HL.out j h1 (by omega)
          go_wp2
          exact ⟨⟨p + 1, rfl, trivial, by omega, hp, HN.out⟩, by simp [intOf]; omega⟩
      obtain rfl : p = 4 := by omega
      have h1l : 1 < x.length := by omega
      have e1 := at_bt x 1 h1l
      obtain ⟨d1, hd1⟩ : ∃ d, bt x 1 = d := ⟨_, rfl⟩
      rw [hd1] at e1
      have HD1 := hid_of hd1
      clear hd1
      have q224 : ((c : Int) == 224) = decide (c = 224) := by
        rw [Bool.eq_iff_iff, beq_iff_eq, decide_eq_true_iff]
        omega
      have q237 : ((c : Int) == 237) = decide (c = 237) := by
        rw [Bool.eq_iff_iff, beq_iff_eq, decide_eq_true_iff]
        omega
      have q240 : ((c : Int) == 240) = decide (c = 240) := by
        rw [Bool.eq_iff_iff, beq_iff_eq, decide_eq_true_iff]
        omega
      have q244 : ((c : Int) == 244) = decide (c = 244) := by
        rw [Bool.eq_iff_iff, beq_iff_eq, decide_eq_true_iff]
        omega
      by_cases m240 : c = 240
      · by_cases r240 : d1 < 144
        · have r' : (d1 : Int) < 144 := by omega
          simp only [m240] at q224 q237 q240 q244
          have HW : Hid (wid x = 1) := wid_off (by rw [HC.out, HD1.out]; unfold off2; omega) (bt_lt x 1)
          go_wp2
          go_ret
          exact ⟨by rw [HW.out]; rfl, rfl⟩
        · have r' : ¬ (d1 : Int) < 144 := by omega
          simp only [m240] at q224 q237 q240 q244
          have HW : Hid (wid x = 4) := (wid_full (by rw [HC.out, HA.out]; omega) (fun i h1 h2 => HL.out i h1 (by rw [HC.out, HA.out] at h2; exact h2)) (by rw [HC.out, HD1.out]; unfold off2; omega) (by rw [HC.out]; exact b0)).trans (by rw [HC.out]; exact HA.out)
          go_wp2
          go_ret
          exact ⟨by rw [HW.out]; rfl, rfl⟩
      by_cases m244 : c = 244
      · by_cases r244 : 143 < d1
        · have r' : (143 : Int) < (d1 : Int) := by omega
          simp only [m244] at q224 q237 q240 q244
          have HW : Hid (wid x = 1) := wid_off (by rw [HC.out, HD1.out]; unfold off2; omega) (bt_lt x 1)
          go_wp2
          go_ret
          exact ⟨by rw [HW.out]; rfl, rfl⟩
        · have r' : ¬ (143 : Int) < (d1 : Int) := by omega
          simp only [m244] at q224 q237 q240 q244
          have HW : Hid (wid x = 4) := (wid_full (by rw [HC.out, HA.out]; omega) (fun i h1 h2 => HL.out i h1 (by rw [HC.out, HA.out] at h2; exact h2)) (by rw [HC.out, HD1.out]; unfold off2; omega) (by rw [HC.out]; exact b0)).trans (by rw [HC.out]; exact HA.out)
          go_wp2
          go_ret
          exact ⟨by rw [HW.out]; rfl, rfl⟩
      have p224 : ((c : Int) == 224) = false := by rw [beq_eq_false_iff_ne]; omega
      have p237 : ((c : Int) == 237) = false := by rw [beq_eq_false_iff_ne]; omega
      have p240 : ((c : Int) == 240) = false := by rw [beq_eq_false_iff_ne]; omega
      have p244 : ((c : Int) == 244) = false := by rw [beq_eq_false_iff_ne]; omega
      clear q224 q237 q240 q244
      have HW : Hid (wid x = 4) := (wid_full (by rw [HC.out, HA.out]; omega) (fun i h1 h2 => HL.out i h1 (by rw [HC.out, HA.out] at h2; exact h2)) (by rw [HC.out, HD1.out]; unfold off2; omega) (by rw [HC.out]; exact b0)).trans (by rw [HC.out]; exact HA.out)
      go_wp2
      go_ret
      exact ⟨by rw [HW.out]; rfl, rfl⟩
  by_cases c1 : c < 194
  case pos =>
    have HA : Hid (asks c = 1) := by
      show asks c = 1
      unfold asks
      simp [c2, c3, c4]
    have z1 : ¬ (194 : Int) ≤ (c : Int) := by omega
    have z2 : ¬ (224 : Int) ≤ (c : Int) := by omega
    have z3 : ¬ (240 : Int) ≤ (c : Int) := by omega
    have hl : ¬ x.length < 1 := by omega
    have hl' : ¬ (x.length : Int) < 1 := by omega
    go_enter Try.func73, Try.ntmps73
    go_wp2
    go_loopw [5] (fun i wr => ∃ p : Nat, i = .int .i64 p ∧ wr = w ∧ 1 ≤ p ∧ p ≤ 1 ∧ ∀ j, 1 ≤ j → j < p → fo (bt x j) = true) (fun i _ => 1 - (intOf i).toNat)
    case atStart => exact ⟨1, rfl, rfl, by omega, by omega, fun j h1 h2 => by omega⟩
    case round =>
      obtain ⟨p, rfl, rfl, hp1, hp2, hall⟩ := hrel
      have HL := hid_of hall
      clear hall
      by_cases hp : p < 1
      · omega
      obtain rfl : p = 1 := by omega
      have HD1 : Hid (bt x 1 = bt x 1) := rfl
      have HW : Hid (wid x = 1) := (wid_full (by rw [HC.out, HA.out]; omega) (fun i h1 h2 => HL.out i h1 (by rw [HC.out, HA.out] at h2; exact h2)) (by rw [HC.out, HD1.out]; unfold off2; omega) (by rw [HC.out]; exact b0)).trans (by rw [HC.out]; exact HA.out)
      go_wp2
      go_ret
      exact ⟨by rw [HW.out]; rfl, rfl⟩
  have HA : Hid (asks c = 1) := by
    show asks c = 1
    unfold asks
    simp [c2, c3, c4]
  have z1 : ¬ (c : Int) ≤ 223 := by omega
  have z2 : (194 : Int) ≤ (c : Int) := by omega
  have z3 : ¬ (c : Int) ≤ 239 := by omega
  have z4 : (224 : Int) ≤ (c : Int) := by omega
  have z5 : ¬ (c : Int) ≤ 244 := by omega
  have z6 : (240 : Int) ≤ (c : Int) := by omega
  have hl : ¬ x.length < 1 := by omega
  have hl' : ¬ (x.length : Int) < 1 := by omega
  go_enter Try.func73, Try.ntmps73
  go_wp2
  go_loopw [5] (fun i wr => ∃ p : Nat, i = .int .i64 p ∧ wr = w ∧ 1 ≤ p ∧ p ≤ 1 ∧ ∀ j, 1 ≤ j → j < p → fo (bt x j) = true) (fun i _ => 1 - (intOf i).toNat)
  case atStart => exact ⟨1, rfl, rfl, by omega, by omega, fun j h1 h2 => by omega⟩
  case round =>
    obtain ⟨p, rfl, rfl, hp1, hp2, hall⟩ := hrel
    have HL := hid_of hall
    clear hall
    by_cases hp : p < 1
    · omega
    obtain rfl : p = 1 := by omega
    have HD1 : Hid (bt x 1 = bt x 1) := rfl
    have HW : Hid (wid x = 1) := (wid_full (by rw [HC.out, HA.out]; omega) (fun i h1 h2 => HL.out i h1 (by rw [HC.out, HA.out] at h2; exact h2)) (by rw [HC.out, HD1.out]; unfold off2; omega) (by rw [HC.out]; exact b0)).trans (by rw [HC.out]; exact HA.out)
    go_wp2
    go_ret
    exact ⟨by rw [HW.out]; rfl, rfl⟩
end Go.Proofs.Ythloacakomahaaa

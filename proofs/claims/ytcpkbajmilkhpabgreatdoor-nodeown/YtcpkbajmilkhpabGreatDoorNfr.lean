/-
  bytes.Equal, bytes.HasSuffix of a zero, node.isFront, by contract.
-/
import Derived.Test.YtcpkbajmilkhpabGreatDoorMc
import Derived.Lib.SlBytesConst
namespace Go.Proofs.YtcpkbajmilkhpabGreatDoor
open Go.RowKit
set_option linter.unusedVariables false
set_option linter.unusedSimpArgs false

theorem str_eq (xs ys : List Int) (hx : ∀ x ∈ xs, 0 ≤ x ∧ x ≤ 255) (hy : ∀ x ∈ ys, 0 ≤ x ∧ x ≤ 255) : ((str xs).toList == (str ys).toList) = decide (xs = ys) := by
  rw [Bool.eq_iff_iff, beq_iff_eq, decide_eq_true_iff]
  constructor
  · intro h
    have e1 := str_nums xs hx
    have e2 := str_nums ys hy
    have h' : (str xs).data.toList = (str ys).data.toList := by rw [ByteArray.toList_eq, ByteArray.toList_eq] at h; exact h
    rw [← e1, ← e2]
    unfold nums
    rw [h']
  · intro h; rw [h]

set_option maxRecDepth 100000 in
theorem equal_any (v v' : Value) (xs ys : List Int) (w : World) (hx : IsB w v xs) (hy : IsB w v' ys) (hxr : ∀ x ∈ xs, 0 ≤ x ∧ x ≤ 255) (hyr : ∀ x ∈ ys, 0 ≤ x ∧ x ≤ 255) :
    Calls Tryz.prog 91 #[v, v'] w fun e w' => e = .returned (.bool (decide (xs = ys))) ∧ w' = w := by
  have c1 := conv_str w v xs hx
  have c2 := conv_str w v' ys hy
  have HE := hid_of (str_eq xs ys hxr hyr)
  clear hx hy hxr hyr
  go_enter Tryz.func91, Tryz.ntmps91
  go_wp2
  go_ret
  exact ⟨by rw [← HE.out]; rfl, rfl⟩

/-- Does it end in a zero? -/
def endsZ (xs : List Int) : Bool := xs.getLast? == some 0

theorem endsZ_drop {xs : List Int} (h : 0 < xs.length) : decide (xs.drop (xs.length - 1) = [0]) = endsZ xs := by
  have hne : xs ≠ [] := List.length_pos_iff.1 h
  have hd : xs.drop (xs.length - 1) = [xs.getLast hne] := by
    conv => lhs; rw [← List.dropLast_concat_getLast hne]
    rw [List.length_append, List.length_dropLast, List.length_singleton]
    rw [show xs.length - 1 + 1 - 1 = (xs.dropLast).length from by rw [List.length_dropLast]; omega, List.drop_left]
  unfold endsZ
  rw [hd, List.getLast?_eq_some_getLast hne, Bool.eq_iff_iff, decide_eq_true_iff, beq_iff_eq]
  constructor
  · intro e; rw [(List.cons.inj e).1]
  · intro e; rw [Option.some.inj e]

set_option maxRecDepth 100000 in
theorem suffix_any (v v' : Value) (xs : List Int) (w : World) (hx : IsB w v xs) (hz : IsB w v' [0]) (hr : ∀ x ∈ xs, 0 ≤ x ∧ x ≤ 255) (hc : ∃ ao c, v = .slice ao xs.length c ∧ xs.length ≤ c) (hl : xs.length ≤ 140737488351232) :
    Calls Tryz.prog 85 #[v, v'] w fun e w' => e = .returned (.bool (endsZ xs)) ∧ w' = w := by
  obtain ⟨zo, zc, rfl⟩ := hz.shape
  rcases hx with ⟨h0, ao, c, rfl⟩ | ⟨g, o, c, rfl, hcell⟩
  · subst h0
    have hE : endsZ [] = false := rfl
    rw [hE]
    clear hz hc
    go_enter Tryz.func85, Tryz.ntmps85
    go_wp2
    go_ret
    exact ⟨rfl, rfl⟩
  · have hcl : xs.length ≤ c := by obtain ⟨a', c', e, h⟩ := hc; cases e; exact h
    obtain ⟨n, hn⟩ : ∃ n, n = xs.length := ⟨_, rfl⟩
    by_cases hp : 0 < xs.length
    · have hI : IsB w (.slice (some ⟨g, o + (xs.length - 1), none⟩) 1 (c - (xs.length - 1))) (xs.drop (xs.length - 1)) := by
        have hdl : (xs.drop (xs.length - 1)).length = 1 := by rw [List.length_drop]; omega
        refine .inr ⟨g, o + (xs.length - 1), c - (xs.length - 1), by rw [hdl], fun i hi => ?_⟩
        rw [hdl] at hi
        have := hcell (xs.length - 1 + i) (by omega)
        rw [show o + (xs.length - 1) + i = o + (xs.length - 1 + i) from by omega, this, List.getD, List.getD, List.getElem?_drop]
      have hq := equal_any _ _ _ _ w hI hz (fun x hx => hr x (List.mem_of_mem_drop hx)) (fun x hx => by rw [List.mem_singleton.1 hx]; decide)
      rw [endsZ_drop hp] at hq
      rw [← hn] at hq hp hcl hl ⊢
      have HQ := hid_of hq
      have hw1 : IntKind.i64.wrap ((n : Int) - 1) = (n : Int) - 1 := by simp [IntKind.wrap, IntKind.bits, IntKind.signed]; omega
      have h1 : (1 : Int) ≤ (n : Int) := by omega
      have h2 : ((n : Int) - 1).toNat = n - 1 := by omega
      have h3 : (0 : Int) ≤ (n : Int) - 1 := by omega
      have h4 : (n : Int) - 1 ≤ (n : Int) := by omega
      have h5 : n - (n - 1) = 1 := by omega
      have h6 : ¬ c = n - 1 := by omega
      clear hq hz hc hn hcell hI hr
      go_enter Tryz.func85, Tryz.ntmps85
      go_wp2_with fail
      refine HQ.out.mono ?_
      rintro e w' ⟨rfl, rfl⟩
      go_wp2
      go_ret
      exact ⟨rfl, rfl⟩
    · have h0 : xs = [] := by cases xs with | nil => rfl | cons a l => simp at hp
      subst h0
      have hE : endsZ [] = false := rfl
      rw [hE]
      clear hz hc hcell
      go_enter Tryz.func85, Tryz.ntmps85
      go_wp2
      go_ret
      exact ⟨rfl, rfl⟩

/-- May bytes be a digest's front? -/
def isFrontB (xs : List Int) : Bool := decide (xs.length ≤ 32) && !endsZ xs

set_option maxRecDepth 100000 in
theorem isfront_any (v : Value) (xs : List Int) (w : World) (hx : IsB w v xs) (hr : ∀ x ∈ xs, 0 ≤ x ∧ x ≤ 255) (hc : ∃ ao c, v = .slice ao xs.length c ∧ xs.length ≤ c) (hl : xs.length ≤ 140737488351232) :
    Calls Tryz.prog 74 #[v] w fun e w' => e = .returned (.bool (isFrontB xs)) ∧ Kept (fun _ => False) w w' := by
  have hkA : Kept (fun _ => False) w (w.alloc (.cells #[.int .u8 0] 5 (1, 2))) := (Kept.refl _ _).alloc _
  have hz : IsB (w.alloc (.cells #[.int .u8 0] 5 (1, 2))) (.slice (some ⟨w.heap.size, 0, none⟩) 1 1) [0] := .inr ⟨w.heap.size, 0, 1, rfl, fun i hi => by
    have hi0 : i = 0 := by simp at hi; exact hi
    subst hi0
    rw [cell_block _ _ _ _ _ _ (heap_alloc_new w (.cells #[.int .u8 0] 5 (1, 2)))]; rfl⟩
  have HQ := hid_of (suffix_any v _ xs _ (hx.kept hkA (fun _ _ f => f)) hz hr hc hl)
  obtain ⟨ao, c, hv, hcl⟩ := hc
  obtain ⟨n, hn⟩ : ∃ n, n = xs.length := ⟨_, rfl⟩
  have HN := hid_of hn
  have HK := hid_of hkA
  subst hv
  rw [← hn] at HQ hcl hl ⊢
  clear hx hz hkA hn
  by_cases h32 : (n : Int) ≤ 32
  · have HE : Hid (isFrontB xs = !endsZ xs) := by
      have h1 : xs.length ≤ 32 := by rw [← HN.out]; omega
      unfold Hid isFrontB
      rw [decide_eq_true h1, Bool.true_and]
    have hcv : (convert 27 27 (.slice (some ⟨w.heap.size, 0, none⟩) 1 1)).run Tryz.prog (w.alloc (.cells #[.int .u8 0] 5)) = .ok (.slice (some ⟨w.heap.size, 0, none⟩) 1 1) (w.alloc (.cells #[.int .u8 0] 5 (1, 2))) := Lib.run_convert_bytes_const w 27 5 #[.int .u8 0] 1 1 Tryz.underlying27 Tryz.underlying5
    go_enter Tryz.func74, Tryz.ntmps74
    go_wp2_with fail
    refine HQ.out.mono ?_
    rintro e w' ⟨rfl, rfl⟩
    go_wp2
    go_ret
    exact ⟨by rw [HE.out]; rfl, HK.out⟩
  · have HE : Hid (isFrontB xs = false) := by
      have h1 : ¬ xs.length ≤ 32 := by rw [← HN.out]; omega
      unfold Hid isFrontB
      rw [decide_eq_false h1, Bool.false_and]
    have h32d : decide ((n : Int) ≤ 32) = false := by simpa using h32
    go_enter Tryz.func74, Tryz.ntmps74
    go_wp2
    go_ret
    exact ⟨by rw [HE.out]; rfl, Kept.refl _ _⟩
end Go.Proofs.YtcpkbajmilkhpabGreatDoor

/-
  TAe: Ae.
-/
import Derived.Test.YtgoabnehdmdikaaGreatDoorTAb
import Derived.Lib.OthersKept
namespace Go.Proofs.YtgoabnehdmdikaaGreatDoor
open Go.RowKit
set_option linter.unusedVariables false
set_option linter.unusedSimpArgs false
set_option maxRecDepth 100000

/-- What a rune does to a cutter (of those that are met here). -/
def tkD (x : List Pc × Int × List Int) (r : Int) : Option (List Pc × Int × List Int) :=
  if 97 ≤ r ∧ r ≤ 122 then (if x.2.1 = 0 ∨ x.2.1 = 2 then some (x.1, 2, x.2.2 ++ [r]) else none)
  else if r = 48 ∨ r = 49 then (if x.2.1 = 0 ∧ x.2.2 = [] then some (x.1, 3, [r]) else none)
  else if r = 32 then (if x.2.1 = 2 then some (x.1 ++ [⟨0, str x.2.2, 0⟩], 0, [])
    else if x.2.1 = 3 ∧ x.2.2 = [48] then some (x.1 ++ [⟨1, ⟨#[]⟩, 0⟩], 0, []) else if x.2.1 = 3 ∧ x.2.2 = [49] then some (x.1 ++ [⟨1, ⟨#[]⟩, 1⟩], 0, []) else none)
  else none
/-- What the line's end does. -/
def endD (x : List Pc × Int × List Int) : Option (List Pc) :=
  if x.2.1 = 2 then some (x.1 ++ [⟨0, str x.2.2, 0⟩]) else if x.2.1 = 3 ∧ x.2.2 = [48] then some (x.1 ++ [⟨1, ⟨#[]⟩, 0⟩]) else if x.2.1 = 3 ∧ x.2.2 = [49] then some (x.1 ++ [⟨1, ⟨#[]⟩, 1⟩]) else none
def foldD : List Int → List Pc × Int × List Int → Option (List Pc × Int × List Int)
  | [], x => some x
  | r :: l, x => match tkD x r with
    | some y => foldD l y
    | none => none
variable {I : Nat × ByteArray × Nat}
theorem take_any (r : Int) (c : Nat) (w wr : World) (x y : List Pc × Int × List Int) (h : Cu I w wr c x.1 x.2.1 x.2.2) (hG : Gl wr) (hl : x.1.length ≤ 90000) (hu : x.2.2.length ≤ 900000) (ht : tkD x r = some y) :
    Calls Tryz.prog 80 #[.pointer (some ⟨c, 0, none⟩), .int .i32 r] wr fun e w' => e = .returned (.bool true) ∧ Cu I w w' c y.1 y.2.1 y.2.2 := by
  obtain ⟨ps, st, un⟩ := x
  simp only at h hl hu
  unfold tkD at ht
  by_cases h1 : 97 ≤ r ∧ r ≤ 122
  · rw [if_pos h1] at ht
    simp only at ht
    by_cases h2 : st = 0 ∨ st = 2
    · rw [if_pos h2] at ht
      cases ht
      rcases h2 with rfl | rfl
      · exact take_let0 r c w wr ps un h h1.1 h1.2 hu
      · exact take_let2 r c w wr ps un h h1.1 h1.2 hu
    · rw [if_neg h2] at ht
      cases ht
  · rw [if_neg h1] at ht
    by_cases h2 : r = 48 ∨ r = 49
    · rw [if_pos h2] at ht
      simp only at ht
      by_cases h3 : st = 0 ∧ un = []
      · rw [if_pos h3] at ht
        cases ht
        obtain ⟨rfl, rfl⟩ := h3
        exact take_dig0 r c w wr ps [] h (by omega) (by omega) hu
      · rw [if_neg h3] at ht
        cases ht
    · rw [if_neg h2] at ht
      by_cases h3 : r = 32
      · rw [if_pos h3] at ht
        subst h3
        simp only at ht
        by_cases h4 : st = 2
        · rw [if_pos h4] at ht
          cases ht
          subst h4
          exact take_bl2 c w wr ps un h hl
        · rw [if_neg h4] at ht
          by_cases h5 : st = 3 ∧ un = [48]
          · rw [if_pos h5] at ht
            cases ht
            obtain ⟨rfl, rfl⟩ := h5
            exact take_bl3 48 (.inl rfl) c w wr ps [] h hG hl
          · rw [if_neg h5] at ht
            by_cases h6 : st = 3 ∧ un = [49]
            · rw [if_pos h6] at ht
              cases ht
              obtain ⟨rfl, rfl⟩ := h6
              exact take_bl3 49 (.inr rfl) c w wr ps [] h hG hl
            · rw [if_neg h6] at ht
              cases ht
      · rw [if_neg h3] at ht
        cases ht
theorem tk_len (x y : List Pc × Int × List Int) (r : Int) (h : tkD x r = some y) : y.1.length ≤ x.1.length + 1 ∧ y.2.2.length ≤ x.2.2.length + 1 := by
  unfold tkD at h
  repeat' split at h
  all_goals first | cases h | skip
  all_goals simp
theorem end_any (c : Nat) (w wr : World) (x : List Pc × Int × List Int) (qs : List Pc) (h : Cu I w wr c x.1 x.2.1 x.2.2) (hG : Gl wr) (hl : x.1.length ≤ 90000) (he : endD x = some qs) :
    Calls Tryz.prog 81 #[.pointer (some ⟨c, 0, none⟩)] wr fun e w' => e = .returned (.bool true) ∧ Cu I w w' c qs 1 [] := by
  obtain ⟨ps, st, un⟩ := x
  simp only at h hl
  unfold endD at he
  simp only at he
  by_cases h4 : st = 2
  · rw [if_pos h4] at he
    cases he
    subst h4
    exact end_word c w wr ps un h hl
  · rw [if_neg h4] at he
    by_cases h5 : st = 3 ∧ un = [48]
    · rw [if_pos h5] at he
      cases he
      obtain ⟨rfl, rfl⟩ := h5
      exact end_num 48 (.inl rfl) c w wr ps h hG hl
    · rw [if_neg h5] at he
      by_cases h6 : st = 3 ∧ un = [49]
      · rw [if_pos h6] at he
        cases he
        obtain ⟨rfl, rfl⟩ := h6
        exact end_num 49 (.inr rfl) c w wr ps h hG hl
      · rw [if_neg h6] at he
        cases he
theorem Cu.next {w wr : World} {c k pos : Nat} {s : ByteArray} {ps : List Pc} {st : Int} {un : List Int} (h : Cu (k, s, pos) w wr c ps st un) (q : Nat) : Cu (k, s, q) w (wr.iterAt k s q) c ps st un := by
  have hk : Kept (fun j => j = k) wr (wr.iterAt k s q) := ⟨rfl, rfl, rfl, by simp [World.iterAt], fun j _ hn => by
    show (wr.heap.setIfInBounds k _)[j]? = _
    rw [Array.getElem?_setIfInBounds, if_neg (fun e => hn e.symm)]⟩
  obtain ⟨pv, uv, h1, h2, h3⟩ := h.ex
  have hit : wr.heap[k]? = some (.stringIter s pos) := h.it
  exact ⟨⟨pv, uv, box_kept hk h1 (fun e => box_iter h1 hit e.symm), hk.ownsRow h2 (fun g hg e => own_iter h2 hit (by rw [hg, e])), hk.ownsRow h3 (fun g hg e => own_iter h3 hit (by rw [hg, e]))⟩, h.kept.step hk (fun i hi e => by have := h.ilo; simp only at this; omega), h.lo, Lib.iterAt_heap wr k s pos q hit, h.ilo⟩
def ib (s : ByteArray) : List Int := s.data.toList.map fun b => (b.toNat : Int)
theorem ib_drop (s : ByteArray) (pos : Nat) (hp : pos < s.size) : (ib s).drop pos = ((s[pos]'hp).toNat : Int) :: (ib s).drop (pos + 1) := by
  have hl : pos < (ib s).length := by unfold ib; rw [List.length_map, ← Lib.size_eq s]; exact hp
  rw [List.drop_eq_getElem_cons hl]
  congr 1
  simp [ib]
  rfl
set_option maxHeartbeats 8000000 in
theorem cut_part (s : ByteArray) (qs : List Pc) (hs : s.size ≤ 65536) (hasc : ∀ (j : Nat) (hj : j < s.size), (s[j]'hj).toNat < 128 ∧ (s[j]'hj).toNat ≠ 59) (x : List Pc × Int × List Int) (hf : foldD (ib s) ([], 0, []) = some x) (he : endD x = some qs) (w : World) (hG : Gl w) :
    Calls Tryz.prog 52 #[.string s] w fun e w' => ∃ pv, e = .returned (.tuple #[pv, .bool true]) ∧ w'.ownsRow w.heap.size 130 4 pv qs.length (pcells qs) ∧ Kept (fun _ => False) w w' := by
  have HG := hid_of hG
  have HE := hid_of he
  have HAS := hid_of hasc
  have hkA : Kept (fun _ => False) w (w.alloc (.cells #[.slice none 0 0, .int .i64 0, .slice none 0 0, .int .i64 0] 160)) := (Kept.refl _ _).alloc _
  have HC0 : Hid (Cu (w.heap.size + 1, s, 0) w ((w.alloc (.cells #[.slice none 0 0, .int .i64 0, .slice none 0 0, .int .i64 0] 160)).iter s 0) w.heap.size [] 0 []) := by
    have hkB : Kept (fun _ => False) (w.alloc (.cells #[.slice none 0 0, .int .i64 0, .slice none 0 0, .int .i64 0] 160)) ((w.alloc (.cells #[.slice none 0 0, .int .i64 0, .slice none 0 0, .int .i64 0] 160)).iter s 0) := (Kept.refl _ _).alloc _
    refine ⟨⟨_, _, box_kept hkB (heap_alloc_new w _) (fun f => f), World.ownsRow_nil _ _ _ _, World.ownsRow_nil _ _ _ _⟩, hkA.trans hkB, Nat.le_refl _, ?_, Nat.le_succ _⟩
    have h5 := World.iter_heap (w.alloc (.cells #[.slice none 0 0, .int .i64 0, .slice none 0 0, .int .i64 0] 160)) s 0
    simpa using h5
  have HF : Hid (foldD ((ib s).drop 0) ([], 0, []) = some x) := hf
  clear hG he hasc hkA hf
  go_enter Tryz.func52, Tryz.ntmps52
  go_wp2
  generalize hw0 : (w.alloc (.cells #[.slice none 0 0, .int .i64 0, .slice none 0 0, .int .i64 0] 160)).iter s 0 = W0 at *
  clear hw0
  generalize w.heap.size + 1 = ik at *
  obtain ⟨c, hc⟩ : ∃ c, c = w.heap.size := ⟨_, rfl⟩
  rw [← hc] at HC0 ⊢
  have HCW := hid_of hc
  clear hc
  go_loopw [6] (fun _ wr => ∃ (pos : Nat) (y : List Pc × Int × List Int), pos ≤ s.size ∧ Hid (Cu (ik, s, pos) w wr c y.1 y.2.1 y.2.2) ∧ Hid (foldD ((ib s).drop pos) y = some x) ∧ y.1.length ≤ pos ∧ y.2.2.length ≤ pos) (fun _ wr => s.size - wr.iterPos ik)
  case atStart => exact ⟨0, ([], 0, []), Nat.zero_le _, HC0, HF, Nat.le_refl _, Nat.le_refl _⟩
  case round =>
    clear HC0 HF
    obtain ⟨pos, y, hps, HC, HF, hy1, hy2⟩ := hrel
    by_cases hp : pos < s.size
    · obtain ⟨h128, h59⟩ := HAS.out pos hp
      have hit : wr.heap[ik]? = some (.stringIter s pos) := HC.out.it
      have hnext : ∀ ty, (Instr.next (.pointer (some ⟨ik, 0, none⟩)) true ty).run Tryz.prog wr = _ := fun ty => Lib.run_next_ascii_at wr ik s pos ty hit hp h128
      have HC1 := hid_of (HC.out.next (pos + 1))
      have HMU : Hid (wr.iterPos ik = pos) := by unfold Hid; simp [World.iterPos, hit]
      generalize wr.iterAt ik s (pos + 1) = W1 at *
      have hib := ib_drop s pos hp
      generalize hr : ((s[pos]'hp).toNat : Int) = r at *
      have h59' : (r == 59) = false := by rw [← hr]; simp; omega
      have hf := HF.out
      rw [hib, foldD] at hf
      cases ht : tkD y r with
      | none => rw [ht] at hf; cases hf
      | some z =>
        rw [ht] at hf
        simp only at hf
        have HF2 := hid_of hf
        have hzl := tk_len y z r ht
        have hkw := HC1.out.kept
        obtain ⟨pv, uv, hb, hp1, hu1⟩ := HC1.out.ex
        obtain ⟨c0, c1, c2, c3, f0, f1, f2, f3⟩ := look4 hb
        have HT := hid_of (take_any r c w W1 y z HC1.out (HG.out.same hkw) (by omega) (by omega) ht)
        have hz1 : z.1.length ≤ pos + 1 := by omega
        have hz2 : z.2.2.length ≤ pos + 1 := by omega
        clear hf ht HF hkw hb hp1 hu1 HC hib hzl h128 h59 hit hr
        go_wp2_with fail
        refine HT.out.mono ?_
        rintro e W2 ⟨rfl, h2⟩
        have HC2 := hid_of h2
        clear h2 HT HC1 c0 c1 c2 c3 f0 f1 f2 f3 hnext
        go_wp2
        go_roundw
        case rel => exact ⟨pos + 1, z, by omega, HC2, HF2, hz1, hz2⟩
        case measure =>
          have h1 : W2.iterPos ik = pos + 1 := by simp [World.iterPos, show W2.heap[ik]? = some (.stringIter s (pos + 1)) from HC2.out.it]
          rw [HMU.out, h1]
          omega
    · have hit : wr.heap[ik]? = some (.stringIter s pos) := HC.out.it
      have hnext : ∀ ty, (Instr.next (.pointer (some ⟨ik, 0, none⟩)) true ty).run Tryz.prog wr = _ := fun ty => Lib.run_next_end_at wr ik s pos ty hit hp
      have hf := HF.out
      have hnil : (ib s).drop pos = [] := List.drop_of_length_le (by unfold ib; rw [List.length_map, ← Lib.size_eq s]; omega)
      rw [hnil, foldD] at hf
      cases hf
      have HT := hid_of (end_any c w wr x qs HC.out (HG.out.same HC.out.kept) (by omega) HE.out)
      clear hnil hit HF HAS HE
      go_wp2_with fail
      refine HT.out.mono ?_
      rintro e W2 ⟨rfl, h2⟩
      obtain ⟨pv, uv, hb, hp1, hu1⟩ := h2.ex
      obtain ⟨c0, c1, c2, c3, f0, f1, f2, f3⟩ := look4 hb
      obtain ⟨pa, pc, hpv⟩ := ownsRow_shape hp1
      subst hpv
      have HK2 := hid_of h2.kept
      have HP2 := hid_of hp1
      clear hb hu1 h2 HT hnext hp1
      go_wp2
      go_ret2
      exact ⟨_, rfl, HP2.out, HK2.out⟩
end Go.Proofs.YtgoabnehdmdikaaGreatDoor

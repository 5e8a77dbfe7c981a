/-
  strings.IndexAny and ContainsAny of "/" and 0, in whatever text of 64 bytes at most, out of strings.IndexRune; path.IsName.
-/
import Derived.Test.YtmkfjdfpcjkmnaaHigh
namespace Go.Proofs
open Go.Shelf
shelf_lay Lays.n152 Nm 152 at Try as Try.lays152b
shelf_lay Lays.n153 Nm 153 at Try as Try.lays153b
end Go.Proofs
namespace Go.Proofs.Ytmkfjdfpcjkmnaa
open Go.RowKit
set_option linter.unusedVariables false
set_option linter.unusedSimpArgs false

/-- What strings.IndexRune tells of a rune beyond ASCII. -/
def HighRunes : Prop := ∀ r : Nat, 128 ≤ r → r ≤ 1114111 → ∀ W, Calls Try.prog 96 #[.string ⟨#[47, 0]⟩, .int .i32 r] W fun e W' => e = .returned (.int .i64 (-1)) ∧ Kept (fun _ => False) W W'

theorem low_rune (b : UInt8) : (okByte b = true ∧ Lib.indexByte [47, 0] b = -1) ∨ (okByte b = false ∧ 0 ≤ Lib.indexByte [47, 0] b) := by
  by_cases h1 : b = 47
  · subst h1; exact .inr ⟨rfl, by decide⟩
  by_cases h2 : b = 0
  · subst h2; exact .inr ⟨rfl, by decide⟩
  left
  refine ⟨by simp [okByte, h1, h2], ?_⟩
  have e1 : ((47 : UInt8) == b) = false := by simpa using fun e => h1 e.symm
  have e2 : ((0 : UInt8) == b) = false := by simpa using fun e => h2 e.symm
  simp [Lib.indexByte, e1, e2]

theorem kept_iter' (w : World) (k : Nat) (s : ByteArray) (p : Nat) : Kept (fun i => i = k) w (w.iterAt k s p) :=
  ⟨rfl, rfl, rfl, by simp [World.iterAt], fun i _ hn => by
    show (w.heap.setIfInBounds k _)[i]? = _
    rw [Array.getElem?_setIfInBounds_ne (fun e => hn e.symm)]⟩

theorem decode_1114111 (s : ByteArray) (pos : Nat) : (Utf8.decode s pos).1 ≤ 1114111 := Lib.rune_le s pos

set_option maxRecDepth 100000 in
set_option maxHeartbeats 2000000 in
theorem indexany_short (HR : HighRunes) (s : ByteArray) (h8 : s.size ≤ 8) (w : World) :
    Calls Try.prog 88 #[.string s, .string ⟨#[47, 0]⟩] w fun e w' => ∃ i : Int, e = .returned (.int .i64 i) ∧ (s.data.toList.all okByte = !decide (0 ≤ i)) ∧ Kept (fun _ => False) w w' := by
  have hsl : s.data.toList.length = s.size := by simp
  have HSL := hid_of hsl
  clear hsl
  have HHR := hid_of HR
  clear HR
  go_enter Try.func88, Try.ntmps88
  go_wp2
  go_loopw [9, 10] (fun _ _ wr => ∃ pos : Nat, wr.heap[w.heap.size]? = some (.stringIter s pos) ∧ Kept (fun _ => False) w wr ∧ pos ≤ s.size ∧ (s.data.toList.take pos).all okByte = true) (fun _ _ wr => s.size - wr.iterPos w.heap.size)
  case atStart => exact ⟨0, World.iter_heap w s 0, (Kept.refl _ w).alloc _, by omega, rfl⟩
  case round =>
    obtain ⟨pos, hit, hkept, hp, hall⟩ := hrel
    have HK := hid_of hkept
    have HI := hid_of hit
    have HA := hid_of hall
    clear hkept hall
    have hip : wr.iterPos w.heap.size = pos := by rw [World.iterPos, HI.out]
    by_cases hlt : pos < s.size
    · have hnx := fun ty => Lib.run_next_any_at (P := Try.prog) wr w.heap.size s pos ty hit hlt
      have hle : pos + (Utf8.decode s pos).2 ≤ s.size := by
        have h1 := Lib.decodeL_le (s.data.toList.drop pos) (by rw [ne_eq, List.drop_eq_nil_iff, HSL.out]; omega)
        rw [Lib.decodeL_drop, List.length_drop, HSL.out] at h1
        omega
      have hw1 := Lib.width_pos s pos
      have GI : Hid ((wr.iterAt w.heap.size s (pos + (Utf8.decode s pos).2)).heap[w.heap.size]? = some (.stringIter s (pos + (Utf8.decode s pos).2))) := Lib.iterAt_heap wr _ s pos _ HI.out
      have GK := hid_of (HK.out.step (kept_iter' wr w.heap.size s (pos + (Utf8.decode s pos).2)) (fun i hi e => absurd hi (by omega)))
      by_cases ha : (s[pos]'hlt).toNat < 128
      · have hd := decode_ascii s pos hlt ha
        rw [hd] at hnx GI GK hle
        have hbk : (((s[pos]'hlt).toNat : Int)).toNat.toUInt8 = s[pos]'hlt := by simp
        have HL := hid_of (fun w => Any.strings_IndexRune_ascii Try.lays152b ⟨#[47, 0]⟩ (((s[pos]'hlt).toNat : Nat) : Int) w (by omega) (by omega))
        rw [hbk] at HL
        have et : (s.data.toList.take (pos + 1)) = s.data.toList.take pos ++ [s[pos]'hlt] := by
          rw [List.take_add_one, List.getElem?_eq_getElem (by rw [HSL.out]; exact hlt)]
          rfl
        have HT : Hid ((s.data.toList.take (pos + 1)).all okByte = okByte (s[pos]'hlt)) := by
          show _ = _
          rw [et, List.all_append, HA.out]
          simp
        have HE : Hid (okByte (s[pos]'hlt) = false → s.data.toList.all okByte = false) := fun h => by
          rw [← List.take_append_drop (pos + 1) s.data.toList, List.all_append, HT.out, h]
          rfl
        dsimp only at hnx GI GK hle
        have hlow := low_rune (s[pos]'hlt)
        clear hd hbk et
        generalize s[pos]'hlt = b at *
        rcases hlow with ⟨o1, o2⟩ | ⟨o1, o2⟩
        · rw [show Lib.indexByte (⟨#[47, 0]⟩ : ByteArray).data.toList b = -1 from o2] at HL
          go_wp2_with fail
          refine (HL.out _).mono ?_
          rintro e w1 ⟨rfl, rfl⟩
          clear HL
          go_wp2
          have e1 : (wr.iterAt w.heap.size s (pos + 1)).iterPos w.heap.size = pos + 1 := by rw [World.iterPos, GI.out]
          refine ⟨⟨pos + 1, GI.out, GK.out, hle, by rw [HT.out, o1]⟩, ?_⟩
          rw [e1, hip]
          omega
        · have hz : Lib.indexByte (⟨#[47, 0]⟩ : ByteArray).data.toList b = Lib.indexByte [47, 0] b := rfl
          rw [hz] at HL
          generalize Lib.indexByte [47, 0] b = ib at *
          go_wp2_with fail
          refine (HL.out _).mono ?_
          rintro e w1 ⟨rfl, rfl⟩
          clear HL
          go_wp2
          go_ret
          exact ⟨pos, rfl, by rw [HE.out o1]; simp, GK.out⟩
      · have ha' : 128 ≤ (s[pos]'hlt).toNat := by omega
        have hh := decode_high s pos hlt ha'
        have HT := hid_of (high_ok s pos hlt ha' hle)
        have HL := hid_of (HHR.out (Utf8.decode s pos).1 hh.1 (decode_1114111 s pos))
        clear hh ha ha'
        generalize (Utf8.decode s pos).1 = rn at *
        generalize (Utf8.decode s pos).2 = m at *
        go_wp2_with fail
        refine (HL.out _).mono ?_
        rintro e w1 ⟨rfl, hk1⟩
        have FK := hid_of (GK.out.trans hk1)
        have FI : Hid (w1.heap[w.heap.size]? = some (.stringIter s (pos + m))) := (hk1.block w.heap.size (Array.getElem?_eq_some_iff.1 GI.out).1 (fun h => h)).trans GI.out
        clear HL hk1
        go_wp2
        have e1 : w1.iterPos w.heap.size = pos + m := by rw [World.iterPos, FI.out]
        refine ⟨⟨pos + m, FI.out, FK.out, hle, by rw [HT.out, HA.out]⟩, ?_⟩
        rw [e1, hip]
        omega
    · have hps : pos = s.size := by omega
      have hnx := fun ty => Lib.run_next_end_at (P := Try.prog) wr w.heap.size s pos ty hit hlt
      have HR : Hid (s.data.toList.all okByte = true) := by
        show _ = _
        have h1 := HA.out
        rwa [List.take_of_length_le (by rw [HSL.out]; omega)] at h1
      go_wp2
      go_ret
      exact ⟨-1, rfl, by rw [HR.out]; rfl, HK.out⟩

theorem info85 : (Try.prog.info? 153).map (fun i => (i.zero, i.size)) = some (some (.agg (Array.replicate 256 (.bool false))), 256) := by kernel_rfl

theorem indexany_full (HR : HighRunes) (x : List UInt8) (h64 : x.length ≤ 64) (w : World) :
    Calls Try.prog 88 #[.string ⟨x.toArray⟩, .string ⟨#[47, 0]⟩] w fun e w' => ∃ i : Int, e = .returned (.int .i64 i) ∧ (x.all okByte = !decide (0 ≤ i)) ∧ Kept (fun _ => False) w w' := by
  by_cases h8 : x.length ≤ 8
  · exact indexany_short HR ⟨x.toArray⟩ h8 w
  · refine (Any.strings_IndexAny_long Try.lays153b (zero_of_info info85).1 (zero_of_info info85).2 ⟨x.toArray⟩ ⟨#[47, 0]⟩ w (by decide) (show 8 < x.length by omega) (show x.length < 4294967281 by omega) (by decide) (fun j b h => by
      have : b ∈ [47, 0] := List.mem_of_getElem? (by simpa using h)
      simp at this
      rcases this with rfl | rfl <;> decide)).mono (fun e w' h => ⟨_, h.1, ?_, by rw [h.2]; exact ((Kept.refl _ w).alloc _).alloc _⟩)
    have := any_ok x
    rw [Lib.containsAny] at this
    show x.all okByte = !decide (0 ≤ Lib.indexAny x [47, 0])
    rw [this, Bool.not_not]

set_option maxRecDepth 100000 in
set_option maxHeartbeats 1000000 in
theorem containsany_full (HR : HighRunes) (x : List UInt8) (h64 : x.length ≤ 64) (w : World) :
    Calls Try.prog 81 #[.string ⟨x.toArray⟩, .string ⟨#[47, 0]⟩] w fun e w' => e = .returned (.bool (!(x.all okByte))) ∧ Kept (fun _ => False) w w' := by
  have HI := hid_of (indexany_full HR x h64)
  go_enter Try.func81, Try.ntmps81
  go_wp2_with fail
  refine (HI.out _).mono ?_
  rintro e w1 ⟨i, rfl, hi, hk⟩
  have HK := hid_of hk
  have HH := hid_of hi
  clear hk hi HI
  go_wp2
  go_ret
  refine ⟨?_, HK.out⟩
  rw [HH.out, Bool.not_not]
  rfl

theorem isname_full (HR : HighRunes) (x : List UInt8) (w : World) :
    Calls Try.prog 65 #[.string ⟨x.toArray⟩] w fun e w' => e = .returned (.bool (isName x)) ∧ Kept (fun _ => False) w w' :=
  isname_by x (fun h W => containsany_full HR x h W) w
end Go.Proofs.Ytmkfjdfpcjkmnaa

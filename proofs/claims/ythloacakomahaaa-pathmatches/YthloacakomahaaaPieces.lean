/-
  path.pieces by contract: a text parted where its runes begin.
-/
import Derived.Test.YthloacakomahaaaRless
import Derived.Lib.OthersKept
import Derived.Lib.MapLaws
import Derived.Lib.TrimUEq
import Derived.Lib.TrimU
namespace Go.Proofs.Ythloacakomahaaa
open Go.RowKit
set_option linter.unusedVariables false
set_option linter.unusedSimpArgs false

/-- How many bytes the first piece has. -/
def wid (l : List UInt8) : Nat := (Lib.decodeL l).2
def piecesF : Nat → List UInt8 → List (List UInt8)
  | 0, l => [l]
  | n + 1, l => if l.length ≤ wid l then [l] else l.take (wid l) :: piecesF n (l.drop (wid l))
/-- A text, parted where its runes begin. -/
def piecesOf (l : List UInt8) : List (List UInt8) := piecesF l.length l

theorem wid_pos (l : List UInt8) : 1 ≤ wid l := by
  have := Lib.width_pos ⟨l.toArray⟩ 0
  exact this
theorem piecesF_more : ∀ (n m : Nat) (l : List UInt8), l.length ≤ n → l.length ≤ m → piecesF n l = piecesF m l
  | 0, 0, l, _, _ => rfl
  | 0, m + 1, l, h, _ => by
    have e : l = [] := List.length_eq_zero_iff.1 (by omega)
    subst e
    rw [piecesF, piecesF, if_pos (by simp)]
  | n + 1, 0, l, _, h => by
    have e : l = [] := List.length_eq_zero_iff.1 (by omega)
    subst e
    rw [piecesF, piecesF, if_pos (by simp)]
  | n + 1, m + 1, l, h1, h2 => by
    rw [piecesF, piecesF]
    have hw := wid_pos l
    split
    · rfl
    · rw [piecesF_more n m (l.drop (wid l)) (by rw [List.length_drop]; omega) (by rw [List.length_drop]; omega)]
theorem pieces_step (l : List UInt8) : piecesOf l = if l.length ≤ wid l then [l] else l.take (wid l) :: piecesOf (l.drop (wid l)) := by
  have hw := wid_pos l
  rw [piecesOf]
  cases hl : l.length with
  | zero =>
    rw [piecesF, if_pos (by omega)]
  | succ n =>
    rw [piecesF]
    split
    · rw [if_pos (by omega)]
    · rw [if_neg (by omega), piecesOf, piecesF_more n (l.drop (wid l)).length _ (by rw [List.length_drop]; omega) (Nat.le_refl _)]

theorem own_base {w : World} {B B' : Nat} {e : TypeId} {size : Nat} {v : Value} {n : Nat} {xs : List Value} (h : w.ownsRow B e size v n xs) (hb : B' ≤ B) : w.ownsRow B' e size v n xs := by
  refine ⟨h.1, ?_⟩
  rcases h.2 with hh | ⟨g, cap, cur, rfl, hg, rest⟩
  · exact .inl hh
  · exact .inr ⟨g, cap, cur, rfl, by omega, rest⟩
theorem kept_iter (w : World) (k : Nat) (s : ByteArray) (p : Nat) : Kept (fun i => i = k) w (w.iterAt k s p) :=
  ⟨rfl, rfl, rfl, by simp [World.iterAt], fun i _ hn => by
    show (w.heap.setIfInBounds k _)[i]? = _
    rw [Array.getElem?_setIfInBounds_ne (fun e => hn e.symm)]⟩
theorem own_apart {w : World} {B : Nat} {e : TypeId} {size : Nat} {v : Value} {n : Nat} {xs : List Value} (h : w.ownsRow B e size v n xs) {k : Nat} (hk : k < B) : ∀ g, v.ownBlock = some g → ¬ (g = k) := by
  intro g hg e
  have := (h.lt g hg).1
  omega

set_option maxRecDepth 100000 in
set_option maxHeartbeats 1000000 in
theorem pieces_any (x : List UInt8) (hx : x.length < 1099511627776) (w : World) :
    Calls Try.prog 59 #[.string ⟨x.toArray⟩] w fun e w' => ∃ v, e = .returned v ∧ w'.ownsRow w.heap.size 9 1 v (piecesOf x).length (texts (piecesOf x)) ∧ Kept (fun _ => False) w w' := by
  obtain ⟨s, hs⟩ : ∃ s : ByteArray, s = ⟨x.toArray⟩ := ⟨_, rfl⟩
  have hsz : s.size = x.length := by rw [hs]; rfl
  have hsl : s.data.toList = x := by rw [hs]
  rw [← hs]
  have HS := hid_of hsl
  have HZ := hid_of hsz
  rw [← hsz] at hx
  clear hs hsl hsz
  go_enter Try.func59, Try.ntmps59
  go_wp2
  go_loopw [3, 4, 5] (fun v f _ wr => ∃ (ds : List (List UInt8)) (pos fr : Nat), wr.ownsRow (w.heap.size + 1) 9 1 v ds.length (texts ds) ∧ Kept (fun _ => False) w wr ∧ w.heap.size + 1 ≤ wr.heap.size ∧ wr.heap[w.heap.size]? = some (.stringIter s pos) ∧ f = .int .i64 fr ∧ ds.length ≤ fr ∧ fr ≤ pos ∧ pos ≤ s.size ∧ piecesOf x = ds ++ piecesOf (x.drop fr) ∧ (pos = 0 ∨ pos = fr + wid (x.drop fr))) (fun _ _ _ wr => s.size - wr.iterPos w.heap.size)
  case atStart => exact ⟨[], 0, 0, World.ownsRow_nil _ _ _ _, (Kept.refl _ w).alloc _, by simp [World.iter], World.iter_heap w s 0, rfl, by simp, by omega, by omega, rfl, .inl rfl⟩
  case round =>
    obtain ⟨ds, pos, fr, hown, hkept, hsize, hit, rfl, hd, hfp, hp, hpc, hcase⟩ := hrel
    have HO := hid_of hown
    have HK := hid_of hkept
    have HC := hid_of hpc
    have HI := hid_of hit
    clear hown hkept hpc
    have hip : wr.iterPos w.heap.size = pos := by rw [World.iterPos, HI.out]
    by_cases hlt : pos < s.size
    · have hnx := fun ty => Lib.run_next_any_at (P := Try.prog) wr w.heap.size s pos ty hit hlt
      have hwd : (Utf8.decode s pos).2 = wid (x.drop pos) := by rw [wid, ← HS.out, Lib.decodeL_drop]
      have hle : pos + wid (x.drop pos) ≤ s.size := by
        have h1 := Lib.decodeL_le (x.drop pos) (by rw [ne_eq, List.drop_eq_nil_iff]; rw [HZ.out] at hlt; omega)
        rw [List.length_drop] at h1
        have h2 := HZ.out
        have h3 : wid (x.drop pos) = (Lib.decodeL (x.drop pos)).2 := rfl
        omega
      have hw1 := wid_pos (x.drop pos)
      rw [hwd] at hnx
      generalize (Utf8.decode s pos).1 = rn at *
      have HW : Hid (∃ m, m = wid (x.drop pos)) := ⟨_, rfl⟩
      obtain ⟨m, hm⟩ := HW.out
      rw [← hm] at hnx hle hw1
      have HM := hid_of hm
      clear hm HW hwd
      have GI : Hid ((wr.iterAt w.heap.size s (pos + m)).heap[w.heap.size]? = some (.stringIter s (pos + m))) := Lib.iterAt_heap wr _ s pos _ HI.out
      have GK := hid_of (HK.out.step (kept_iter wr w.heap.size s (pos + m)) (fun i hi e => absurd hi (by omega)))
      have GO := hid_of ((kept_iter wr w.heap.size s (pos + m)).ownsRow HO.out (own_apart HO.out (by omega)))
      have gs : w.heap.size + 1 ≤ (wr.iterAt w.heap.size s (pos + m)).heap.size := by simpa [World.iterAt] using hsize
      rcases hcase with h0 | h0
      · have hf0 : fr = 0 := by omega
        subst h0
        subst hf0
        rw [Nat.zero_add] at GI GK GO gs hle hnx
        go_wp2
        refine ⟨⟨ds, m, 0, GO.out, GK.out, gs, GI.out, rfl, hd, by omega, hle, HC.out, .inr (by rw [HM.out]; omega)⟩, ?_⟩
        have e1 : (wr.iterAt w.heap.size s m).iterPos w.heap.size = m := by rw [World.iterPos, GI.out]
        rw [e1, hip]
        omega
      · have hgt : fr < pos := by have := wid_pos (x.drop fr); omega
        have E : s.extract fr pos = ⟨((x.drop fr).take (pos - fr)).toArray⟩ := bytes_eq (by rw [extract_list, List.drop_take, HS.out])
        obtain ⟨v', w', hr, how, ⟨g, cap, rfl⟩, hk'⟩ := app_text _ _ _ _ _ 35 ((x.drop fr).take (pos - fr)) GO.out gs (by omega)
        rw [← E] at hr
        have hkk := GK.out.step hk' (fun i hi (h : w.heap.size + 1 ≤ i) => absurd hi (by omega))
        have FI : Hid (w'.heap[w.heap.size]? = some (.stringIter s (pos + m))) := (hk'.block w.heap.size (by omega) (by omega)).trans GI.out
        have FS := hid_of (Nat.le_trans gs hk'.size)
        have FO := hid_of how
        have FK := hid_of hkk
        clear how hkk hk' E
        have HR : Hid (piecesOf x = (ds ++ [(x.drop fr).take (pos - fr)]) ++ piecesOf (x.drop pos)) := by
          show _ = _
          rw [HC.out, pieces_step (x.drop fr), if_neg (by rw [List.length_drop]; have := HZ.out; omega), List.append_assoc]
          congr 1
          have e1 : wid (x.drop fr) = pos - fr := by omega
          rw [e1, List.drop_drop, show fr + (pos - fr) = pos by omega]
          rfl
        clear GI GO HO GK HK h0
        go_wp2_with (refine wp_app rfl (.tmp 14) (.tmp 19) 35 35 ?_ _ _ rfl rfl (.slice (some ⟨g, 0, none⟩) (ds.length + 1) cap) w' ?_ ?_; rfl; exact hr)
        have e1 : w'.iterPos w.heap.size = pos + m := by rw [World.iterPos, FI.out]
        go_roundw
        case rel => exact ⟨ds ++ [(x.drop fr).take (pos - fr)], pos + m, pos, by rw [List.length_append]; exact FO.out, FK.out, FS.out, FI.out, rfl, by simp; omega, by omega, hle, HR.out, .inr (by rw [HM.out])⟩
        case measure =>
          rw [e1, hip]
          omega
    · have hps : pos = s.size := by omega
      have hnx := fun ty => Lib.run_next_end_at (P := Try.prog) wr w.heap.size s pos ty hit hlt
      have HR : Hid (piecesOf x = ds ++ [x.drop fr]) := by
        show _ = _
        rw [HC.out]
        congr 1
        rw [pieces_step, if_pos]
        have h2 := HZ.out
        have h3 := wid_pos (x.drop fr)
        rw [List.length_drop]
        rcases hcase with h | h <;> omega
      have E : s.extract fr s.size = ⟨(x.drop fr).toArray⟩ := bytes_eq (by rw [extract_list, List.drop_take, HS.out, List.take_of_length_le (by rw [List.length_drop, HZ.out]; omega)])
      obtain ⟨v', w', hr, how, ⟨g, cap, rfl⟩, hk'⟩ := app_text _ _ _ _ _ 35 (x.drop fr) HO.out hsize (by omega)
      rw [← E] at hr
      have hkk := HK.out.step hk' (fun i hi (h : w.heap.size + 1 ≤ i) => absurd hi (by omega))
      have FO := hid_of how
      have FK := hid_of hkk
      clear how hkk hk' E hit HO HK HI hcase
      go_wp2_with (refine wp_app rfl (.tmp 22) (.tmp 26) 35 35 ?_ _ _ rfl rfl (.slice (some ⟨g, 0, none⟩) (ds.length + 1) cap) w' ?_ ?_; rfl; exact hr)
      go_ret
      refine ⟨_, rfl, ?_, FK.out⟩
      rw [HR.out, List.length_append]
      exact own_base FO.out (by omega)
end Go.Proofs.Ythloacakomahaaa

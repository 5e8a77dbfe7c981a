/-
  op.Decode by contract.
-/
import Derived.Test.YtindhkjcifghhabPb
namespace Go.Proofs.Ytindhkjcifghhab
open Go.RowKit Go.Deep
set_option linter.unusedVariables false
set_option linter.unusedSimpArgs false
set_option maxRecDepth 100000

theorem numD_fault {xs : List Int} (hb : ∀ x ∈ xs, 0 ≤ x ∧ x ≤ 255) {f : Int} (hf : numD xs = .error f) : f ≠ 0 := by
  unfold numD at hf
  rcases formD_cases xs hb with ⟨u', rest', h', he, _⟩ | h' | h'
  · rw [h'] at hf
    dsimp only at hf
    split at hf
    · cases hf
    · cases hf; decide
  · rw [h'.1] at hf; cases hf; decide
  · rw [h'.1] at hf; cases hf; decide
theorem intD_fault {xs : List Int} (hb : ∀ x ∈ xs, 0 ≤ x ∧ x ≤ 255) {f : Int} (hf : intD xs = .error f) : f ≠ 0 := by
  unfold intD at hf
  rcases formD_cases xs hb with ⟨u', rest', h', he, _⟩ | h' | h'
  · rw [h'] at hf
    cases hf
  · rw [h'.1] at hf; cases hf; decide
  · rw [h'.1] at hf; cases hf; decide
theorem readK_fault {m : Nat} {xs : List Int} (hb : ∀ x ∈ xs, 0 ≤ x ∧ x ≤ 255) {f : Int} (h : readK m xs = .error f) : f ≠ 0 := by
  unfold readK at h
  split at h
  · cases h
  · exact intD_fault hb h
  · exact numD_fault hb h
theorem oneDI_fault {xs : List Int} (hb : BytesOk xs) {f : Int} (h : oneDI xs = .error f) : f ≠ 0 := by
  unfold oneDI at h
  cases h1 : numD xs with
  | error e => rw [h1] at h; cases h; exact numD_fault hb.1 h1
  | ok p =>
    obtain ⟨op, r1⟩ := p
    rw [h1] at h
    dsimp only at h
    split at h
    · cases h2 : readK (kOf op) r1 with
      | error e => rw [h2] at h; cases h; exact readK_fault (numD_rest hb h1).1 h2
      | ok p =>
        obtain ⟨a, r2⟩ := p
        rw [h2] at h
        dsimp only at h
        split at h
        · cases h
        · cases h; decide
    · cases h; decide
theorem allD_fault : ∀ (n : Nat) {xs : List Int}, BytesOk xs → ∀ {f : Int}, allD n xs = .error f → f ≠ 0
  | 0, xs, hb, f, h => by
    unfold allD at h
    split at h
    · cases h
    · cases h; decide
  | n + 1, xs, hb, f, h => by
    rw [allD_succ] at h
    split at h
    · cases h
    · cases h1 : oneDI xs with
      | error e => rw [h1] at h; cases h; exact oneDI_fault hb h1
      | ok p =>
        obtain ⟨y, r⟩ := p
        rw [h1] at h
        dsimp only at h
        cases h2 : allD n r with
        | error e => rw [h2] at h; cases h; exact allD_fault n (oneDI_rest hb h1) h2
        | ok ys => rw [h2] at h; cases h

/-- What the function literal of Decode leaves. -/
def DcOk (xs : List Int) (w0 : World) (lb r : Nat) (n : Nat) (w' : World) : Prop :=
  ∃ (ys : List IN) (v' : Value), allD 4096 xs = .ok ys ∧ n = 0 ∧ w'.cell? ⟨lb, 0, none⟩ = some v' ∧ w'.ownsRow w0.heap.size 42 2 v' ys.length (icells ys) ∧ (∀ y ∈ ys, y.Ok) ∧ Kept (fun q => q = r ∨ q = lb) w0 w'
def DcBad (xs : List Int) (w0 : World) (r : Nat) (flt : Int) (w' : World) : Prop := allD 4096 xs = .error flt ∧ Kept (fun q => q = r) w0 w'

set_option maxHeartbeats 4000000 in
theorem decode1_x (r g lb p : Nat) (v : Value) (xs : List Int) (w : World) (hr : Rd w r v true 0) (hx : IsR w g v xs) (hgr : g ≠ r) (hgl : g < w.heap.size) (hb : BytesOk xs) (hlb : w.heap[lb]? = some (.cells #[.slice none 0 0] 22 (0, 0))) (hlr : lb ≠ r) (hlg : lb ≠ g) (hp : w.cell? ⟨p, 0, none⟩ = some (.pointer (some ⟨r, 0, none⟩))) (hpr : p ≠ r) (hpl : p ≠ lb) :
    Calls Try.prog 23 #[.pointer (some ⟨r, 0, none⟩), .pointer (some ⟨lb, 0, none⟩)] w (LedX r p (DcOk xs w lb r) (DcBad xs w r) (fun _ _ => False)) := by
  have hE := readAll_x r g v xs w 0 hr hx hgr hgl hb
  unfold AllP at hE
  cases hd : allD 4096 xs with
  | error flt =>
    rw [hd] at hE
    have HE := hid_of hE
    have HD := hid_of hd
    clear hE hd hr hx
    go_enter Try.func23, Try.ntmps23
    go_wp2_with fail
    refine HE.out.mono ?_
    rintro e w2 ⟨rfl, h2, h3⟩
    refine ⟨rfl, .inr (.inl ⟨flt, [], ?_, rfl, h2, h3.cell hp (by omega), HD.out, h3⟩)⟩
    intro z hz
    cases hz
  | ok ys =>
    rw [hd] at hE
    have HE := hid_of hE
    have HD := hid_of hd
    clear hE hd hr hx
    go_enter Try.func23, Try.ntmps23
    go_wp2_with fail
    refine HE.out.mono ?_
    rintro e w2 ⟨⟨v', rfl, ho⟩, hys, v2, a1, a2, a3⟩
    have hl2 := (a3.block lb (Array.getElem?_eq_some_iff.1 hlb).1 hlr).trans hlb
    have l0 : w2.cell? ⟨lb, 0, none⟩ = some (.slice none 0 0) := by rw [cell_block _ _ _ _ _ _ hl2]; rfl
    have lf := frozen_block _ _ 0 _ _ hl2
    have ll : lb < w2.heap.size := (Array.getElem?_eq_some_iff.1 hl2).1
    obtain ⟨lo, lc, hv'⟩ := ownsRow_shape ho
    have hks := kept_set w2 lb 0 v'
    obtain ⟨ao2, c2, hs2⟩ := a2.shape
    have HQ : Hid (LedX r p (DcOk xs w lb r) (DcBad xs w r) (fun _ _ => False) (.returned (.tuple #[])) (w2.setCell ⟨lb, 0, none⟩ v')) := by
      refine .inl ⟨rfl, 0, ⟨(hks.cell (a3.cell hp hpr) hpl), ao2, c2, true, ?_⟩, ys, v', HD.out, rfl, ?_, ?_, hys, (a3.mono (fun q hq e => .inl e)).step hks (fun q hq e => .inr e)⟩
      · have hs3 : v2 = .slice ao2 0 c2 := hs2
        rw [← hs3]
        exact a1.kept hks (fun e => hlr e.symm)
      · rw [cell_block _ _ _ _ _ _ (set_block _ _ _ _ _ _ hl2 v')]; rfl
      · exact hks.ownsRow ho (fun q hq e => by have := (ho.lt q hq).1; have := (Array.getElem?_eq_some_iff.1 hlb).1; omega)
    subst hv'
    clear ho a1 a2 a3 hl2 hks hs2 HE HD
    go_wp2
    go_end0
    exact HQ.out

/-- What Decode tells: the instructions, or its error. -/
def decD (xs : List Int) : Except Int (List IN) := if 40960 < xs.length then .error 2 else allD 4096 xs
theorem decD_fault {xs : List Int} (hb : BytesOk xs) {f : Int} (h : decD xs = .error f) : f ≠ 0 := by
  unfold decD at h
  split at h
  · cases h; decide
  · exact allD_fault 4096 hb h
/-- What Decode leaves. -/
def DecR (xs : List Int) (w : World) (e : Ending) (w' : World) : Prop :=
  Kept (fun _ => False) w w' ∧ match decD xs with
    | .error flt => e = .returned (.tuple #[.slice none 0 0, .int .i64 flt])
    | .ok ys => (∃ v', e = .returned (.tuple #[v', .int .i64 0]) ∧ w'.ownsRow w.heap.size 42 2 v' ys.length (icells ys)) ∧ ∀ y ∈ ys, y.Ok

set_option maxHeartbeats 4000000 in
theorem decode_x (g : Nat) (bao : Option Addr) (bc : Nat) (xs : List Int) (w : World) (hx : IsR w g (.slice bao xs.length bc) xs) (hgl : g < w.heap.size) (hb : BytesOk xs) :
    Calls Try.prog 8 #[.slice bao xs.length bc] w (DecR xs w) := by
  obtain ⟨n, hn⟩ : ∃ n, n = xs.length := ⟨_, rfl⟩
  by_cases hlong : 40960 < xs.length
  · have HR : Hid (DecR xs w (.returned (.tuple #[.slice none 0 0, .int .i64 2])) w) := ⟨Kept.refl _ _, by unfold decD; rw [if_pos hlong]⟩
    have hb2 := hb.2
    rw [← hn] at hlong hb2 ⊢
    have hlI : (40960 : Int) < (n : Int) := by omega
    clear hx hn hb
    go_enter Try.func8, Try.ntmps8
    go_wp2
    go_ret2
    exact HR.out
  · have hlI : (n : Int) ≤ 40960 := by omega
    have hkL : Kept (fun _ => False) w (w.alloc (.cells #[.slice none 0 0] 22)) := (Kept.refl _ _).alloc _
    have hlb := heap_alloc_new w (.cells #[.slice none 0 0] 22)
    have hszL : (w.alloc (.cells #[.slice none 0 0] 22)).heap.size = w.heap.size + 1 := by simp
    have HF : Hid (∀ wL, Kept (fun _ => False) w wL → wL.heap[w.heap.size]? = some (.cells #[.slice none 0 0] 22 (0, 0)) → wL.heap.size = w.heap.size + 1 → Calls Try.prog 22 #[.slice bao xs.length bc, .func (.func 23) #[] #[.pointer (some ⟨w.heap.size, 0, none⟩)]] wL fun e w' =>
        Kept (fun _ => False) w w' ∧ ((∃ (ys : List IN) (v' : Value), allD 4096 xs = .ok ys ∧ e = .returned (.int .i64 0) ∧ w'.cell? ⟨w.heap.size, 0, none⟩ = some v' ∧ w'.ownsRow w.heap.size 42 2 v' ys.length (icells ys) ∧ ∀ y ∈ ys, y.Ok) ∨ ∃ flt, allD 4096 xs = .error flt ∧ e = .returned (.int .i64 flt) ∧ w'.cell? ⟨w.heap.size, 0, none⟩ = some (.slice none 0 0))) := fun wL hk hl hs => by
      have hk0 : Kept (fun _ => False) wL ((wL.alloc (.cells #[.slice bao xs.length bc, .bool true, .int .i64 0] 89)).alloc (.cells #[.pointer (some ⟨wL.heap.size, 0, none⟩)] 65)) := ((Kept.refl _ _).alloc _).alloc _
      have hs0 : ((wL.alloc (.cells #[.slice bao xs.length bc, .bool true, .int .i64 0] 89)).alloc (.cells #[.pointer (some ⟨wL.heap.size, 0, none⟩)] 65)).heap.size = w.heap.size + 3 := by simp [hs]
      have hrd : ((wL.alloc (.cells #[.slice bao xs.length bc, .bool true, .int .i64 0] 89)).alloc (.cells #[.pointer (some ⟨wL.heap.size, 0, none⟩)] 65)).heap[wL.heap.size]? = some (.cells #[.slice bao xs.length bc, .bool true, .int .i64 0] 89 (0, 0)) := by
        rw [Below.heap_alloc _ _ _ (by simp)]
        exact heap_alloc_new wL _
      have hpp : ((wL.alloc (.cells #[.slice bao xs.length bc, .bool true, .int .i64 0] 89)).alloc (.cells #[.pointer (some ⟨wL.heap.size, 0, none⟩)] 65)).cell? ⟨wL.heap.size + 1, 0, none⟩ = some (.pointer (some ⟨wL.heap.size, 0, none⟩)) := by
        have := heap_alloc_new (wL.alloc (.cells #[.slice bao xs.length bc, .bool true, .int .i64 0] 89)) (.cells #[.pointer (some ⟨wL.heap.size, 0, none⟩)] 65)
        rw [show (wL.alloc (.cells #[.slice bao xs.length bc, .bool true, .int .i64 0] 89)).heap.size = wL.heap.size + 1 from by simp] at this
        rw [cell_block _ _ _ _ _ _ this]; rfl
      have hlb0 := (hk0.block w.heap.size (by omega) (fun f => f)).trans hl
      have hd1 := decode1_x wL.heap.size g w.heap.size (wL.heap.size + 1) _ xs ((wL.alloc (.cells #[.slice bao xs.length bc, .bool true, .int .i64 0] 89)).alloc (.cells #[.pointer (some ⟨wL.heap.size, 0, none⟩)] 65)) hrd ((hx.kept hk (fun f => f)).kept hk0 (fun f => f)) (by omega) (by omega) hb hlb0 (by omega) (by omega) hpp (by omega) (by omega)
      refine (read_c (.pointer (some ⟨w.heap.size, 0, none⟩)) bao xs.length bc wL _ _ _ hd1).mono ?_
      rintro e w' (⟨m, w1, rfl, ⟨ys, v', q1, rfl, q3, q4, q6, q5⟩, hr', hk'⟩ | ⟨flt, w1, rfl, ⟨q1, q5⟩, hr', hk'⟩ | ⟨q, older, w1, hne, hpl, rfl, hq, _⟩)
      · refine ⟨(((hk.trans hk0).step q5 (fun i hi e => by omega))).step hk' (fun i hi e => by omega), .inl ⟨ys, v', q1, rfl, hk'.cell q3 (by show ¬ w.heap.size = _; omega), ?_, q6⟩⟩
        exact Joins.ownsRow_le (hk'.ownsRow q4 (fun q hq e => by have := (q4.lt q hq).1; omega)) (by omega)
      · refine ⟨(((hk.trans hk0).step q5 (fun i hi e => by omega))).step hk' (fun i hi e => by omega), .inr ⟨flt, q1, rfl, hk'.cell (q5.cell (v := .slice none 0 0) ?_ (by show ¬ w.heap.size = _; omega)) (by show ¬ w.heap.size = _; omega)⟩⟩
        rw [cell_block _ _ _ _ _ _ hlb0]; rfl
      · exact hq.elim
    have HL : Hid (decD xs = allD 4096 xs) := if_neg hlong
    rw [← hn] at HF ⊢
    clear hx hn hb hlong
    go_enter Try.func8, Try.ntmps8
    go_upto_region 4 with fail
    have HC := hid_of (HF.out _ hkL hlb hszL)
    clear hkL hlb hszL HF
    generalize w.alloc (.cells #[.slice none 0 0] 22) = wL at *
    go_wp2_with fail
    refine HC.out.mono ?_
    rintro e w2 ⟨hk2, ⟨ys, v', q1, rfl, q3, q4, q6⟩ | ⟨flt, q1, rfl, q3⟩⟩
    · obtain ⟨lo, lc, hv'⟩ := ownsRow_shape q4
      have HR : Hid (DecR xs w (.returned (.tuple #[v', .int .i64 0])) w2) := ⟨hk2, by rw [HL.out, q1]; exact ⟨⟨v', rfl, q4⟩, q6⟩⟩
      subst hv'
      clear hk2 q1 q4 HC
      go_wp2
      go_ret2
      exact HR.out
    · have HR : Hid (DecR xs w (.returned (.tuple #[.slice none 0 0, .int .i64 flt])) w2) := ⟨hk2, by rw [HL.out, q1]⟩
      clear hk2 q1 HC
      go_wp2
      go_ret2
      exact HR.out
end Go.Proofs.Ytindhkjcifghhab

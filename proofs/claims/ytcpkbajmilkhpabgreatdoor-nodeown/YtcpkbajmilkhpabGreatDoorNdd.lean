/-
  node.Decode by contract, as a whole.
-/
import Derived.Test.YtcpkbajmilkhpabGreatDoorNdc
import Derived.Lib.SmallJoins
namespace Go.Proofs.YtcpkbajmilkhpabGreatDoor
open Go.RowKit Go.Deep
set_option linter.unusedVariables false
set_option linter.unusedSimpArgs false

theorem numD_fault {xs : List Int} (hb : ∀ x ∈ xs, 0 ≤ x ∧ x ≤ 255) {f : Int} (hf : numD xs = .error f) : f ≠ 0 := by
  unfold numD at hf
  rcases formD_cases xs hb with ⟨u', rest', h', he, _⟩ | h' | h'
  · rw [h'] at hf
    dsimp only at hf
    split at hf
    · cases hf
    · cases hf; decide
  · rw [h'.1] at hf; cases hf; decide
  · rw [h'.1] at hf; cases hf; decide
theorem bytesD_fault {xs : List Int} (hb : ∀ x ∈ xs, 0 ≤ x ∧ x ≤ 255) {f : Int} (hf : bytesD xs = .error f) : f ≠ 0 := by
  unfold bytesD at hf
  cases hd : numD xs with
  | error e => rw [hd] at hf; cases hf; exact numD_fault hb hd
  | ok p =>
    obtain ⟨u, r⟩ := p
    rw [hd] at hf
    dsimp only at hf
    unfold rawD at hf
    split at hf
    · cases hf; decide
    · split at hf
      · cases hf; decide
      · cases hf
theorem numD_rest {xs rest : List Int} {u : Int} (hb : BytesOk xs) (h : numD xs = .ok (u, rest)) : BytesOk rest := by
  obtain ⟨hs, _⟩ := numD_split hb.1 h
  have g1 := hb.1
  have g2 := hb.2
  rw [hs] at g1 g2
  exact ⟨fun x hx => g1 x (List.mem_append_right _ hx), by rw [List.length_append] at g2; omega⟩
theorem entD_fault {P : List Int → Bool} {ah xs : List Int} (hb : BytesOk xs) {f : Int} (hf : entD P ah xs = .error f) : f ≠ 0 := by
  unfold entD at hf
  cases h1 : numD xs with
  | error e => rw [h1] at hf; cases hf; exact numD_fault hb.1 h1
  | ok p =>
    obtain ⟨k, r1⟩ := p
    have hb1 := numD_rest hb h1
    rw [h1] at hf
    dsimp only at hf
    split at hf
    · cases h2 : bytesD r1 with
      | error e => rw [h2] at hf; cases hf; exact bytesD_fault hb1.1 h2
      | ok p =>
        obtain ⟨nm, r2⟩ := p
        have hb2 := (bytesD_rest hb1 h2).1
        rw [h2] at hf
        dsimp only at hf
        split at hf
        · cases h3 : bytesD r2 with
          | error e => rw [h3] at hf; cases hf; exact bytesD_fault hb2.1 h3
          | ok p =>
            obtain ⟨b, r3⟩ := p
            rw [h3] at hf
            dsimp only at hf
            split at hf
            · cases hf
            · cases hf; decide
        · cases hf; decide
    · cases hf; decide
theorem entsD_fault {P : List Int → Bool} (n : Nat) : ∀ {ah xs : List Int}, BytesOk xs → ∀ {f : Int}, entsD P n ah xs = .error f → f ≠ 0 := by
  induction n with
  | zero => intro ah xs _ f hf; cases hf
  | succ n ih =>
    intro ah xs hb f hf
    rw [entsD_succ] at hf
    cases h1 : entD P ah xs with
    | error e => rw [h1] at hf; cases hf; exact entD_fault hb h1
    | ok p =>
      obtain ⟨y, r⟩ := p
      rw [h1] at hf
      dsimp only at hf
      cases h2 : entsD P n y.nm r with
      | error e => rw [h2] at hf; cases hf; exact ih (entD_facts hb h1).1 h2
      | ok p => rw [h2] at hf; cases hf
theorem listD_fault {P : List Int → Bool} {xs : List Int} (hb : BytesOk xs) {f : Int} (hf : listD P xs = .error f) : f ≠ 0 := by
  unfold listD at hf
  cases h1 : numD xs with
  | error e => rw [h1] at hf; cases hf; exact numD_fault hb.1 h1
  | ok p =>
    obtain ⟨t, r1⟩ := p
    have hb1 := numD_rest hb h1
    rw [h1] at hf
    dsimp only at hf
    split at hf
    · cases h2 : mostD 1024 r1 with
      | error e =>
        rw [h2] at hf
        cases hf
        unfold mostD at h2
        cases h3 : numD r1 with
        | error e => rw [h3] at h2; cases h2; exact numD_fault hb1.1 h3
        | ok p =>
          obtain ⟨u, rr⟩ := p
          rw [h3] at h2
          dsimp only at h2
          split at h2
          · cases h2; decide
          · cases h2
      | ok p =>
        obtain ⟨n, r2⟩ := p
        rw [h2] at hf
        refine entsD_fault n.toNat ?_ hf
        unfold mostD at h2
        cases h3 : numD r1 with
        | error e => rw [h3] at h2; cases h2
        | ok p =>
          obtain ⟨u, rr⟩ := p
          rw [h3] at h2
          dsimp only at h2
          split at h2
          · cases h2
          · cases h2; exact numD_rest hb1 h3
    · cases hf; decide

/-- What Decode answers. -/
def DecR (P : List Int → Bool) (xs : List Int) (w : World) (e : Ending) (w' : World) : Prop :=
  Kept (fun _ => False) w w' ∧
  if 1048576 < xs.length then e = .returned (.tuple #[.slice none 0 0, .int .i64 2])
  else match listD P xs with
    | .error flt => e = .returned (.tuple #[.slice none 0 0, .int .i64 flt])
    | .ok (ys, rest) => if 0 < rest.length then e = .returned (.tuple #[.slice none 0 0, .int .i64 13]) else ∃ v', e = .returned (.tuple #[v', .int .i64 0]) ∧ w'.ownsRow w.heap.size 41 34 v' ys.length (ents ys)

set_option maxRecDepth 100000 in
set_option maxHeartbeats 1000000 in
theorem decode_x (P : List Int → Bool) (HP : NameC P) (g : Nat) (bao : Option Addr) (bc : Nat) (xs : List Int) (w : World) (hx : IsR w g (.slice bao xs.length bc) xs) (hgl : g < w.heap.size) (hb : BytesOk xs) :
    Calls Tryz.prog 9 #[.slice bao xs.length bc] w (DecR P xs w) := by
  obtain ⟨n, hn⟩ : ∃ n, n = xs.length := ⟨_, rfl⟩
  by_cases hlong : 1048576 < xs.length
  · have HR : Hid (DecR P xs w (.returned (.tuple #[.slice none 0 0, .int .i64 2])) w) := ⟨Kept.refl _ _, by rw [if_pos hlong]⟩
    rw [← hn] at hlong ⊢
    have hlI : (1048576 : Int) < (n : Int) := by omega
    clear hx hn HP
    go_enter Tryz.func9, Tryz.ntmps9
    go_wp2
    go_ret2
    exact HR.out
  · have hlI : ¬ ((1048576 : Int) < (n : Int)) := by omega
    have hkL : Kept (fun _ => False) w (w.alloc (.cells #[.slice none 0 0] 22)) := (Kept.refl _ _).alloc _
    have hlb := heap_alloc_new w (.cells #[.slice none 0 0] 22)
    have hszL : (w.alloc (.cells #[.slice none 0 0] 22)).heap.size = w.heap.size + 1 := by simp
    have HF : Hid (∀ wL, Kept (fun _ => False) w wL → wL.heap[w.heap.size]? = some (.cells #[.slice none 0 0] 22 (0, 0)) → wL.heap.size = w.heap.size + 1 → Calls Tryz.prog 29 #[.slice bao xs.length bc, .func (.func 30) #[] #[.pointer (some ⟨w.heap.size, 0, none⟩)]] wL fun e w' =>
        Kept (fun _ => False) w w' ∧ ((∃ (ys : List EV) (rest : List Int) (v' : Value), listD P xs = .ok (ys, rest) ∧ e = .returned (.int .i64 (tailOf rest.length 0)) ∧ w'.cell? ⟨w.heap.size, 0, none⟩ = some v' ∧ w'.ownsRow w.heap.size 41 34 v' ys.length (ents ys)) ∨ ∃ flt, listD P xs = .error flt ∧ e = .returned (.int .i64 flt))) := fun wL hk hl hs => by
      have hk0 : Kept (fun _ => False) wL ((wL.alloc (.cells #[.slice bao xs.length bc, .bool true, .int .i64 0] 82)).alloc (.cells #[.pointer (some ⟨wL.heap.size, 0, none⟩)] 62)) := ((Kept.refl _ _).alloc _).alloc _
      have hs0 : ((wL.alloc (.cells #[.slice bao xs.length bc, .bool true, .int .i64 0] 82)).alloc (.cells #[.pointer (some ⟨wL.heap.size, 0, none⟩)] 62)).heap.size = w.heap.size + 3 := by simp [hs]
      have hrd : ((wL.alloc (.cells #[.slice bao xs.length bc, .bool true, .int .i64 0] 82)).alloc (.cells #[.pointer (some ⟨wL.heap.size, 0, none⟩)] 62)).heap[wL.heap.size]? = some (.cells #[.slice bao xs.length bc, .bool true, .int .i64 0] 82 (0, 0)) := by
        rw [Below.heap_alloc _ _ _ (by simp)]
        exact heap_alloc_new wL _
      have hpp : ((wL.alloc (.cells #[.slice bao xs.length bc, .bool true, .int .i64 0] 82)).alloc (.cells #[.pointer (some ⟨wL.heap.size, 0, none⟩)] 62)).cell? ⟨wL.heap.size + 1, 0, none⟩ = some (.pointer (some ⟨wL.heap.size, 0, none⟩)) := by
        have := heap_alloc_new (wL.alloc (.cells #[.slice bao xs.length bc, .bool true, .int .i64 0] 82)) (.cells #[.pointer (some ⟨wL.heap.size, 0, none⟩)] 62)
        rw [show (wL.alloc (.cells #[.slice bao xs.length bc, .bool true, .int .i64 0] 82)).heap.size = wL.heap.size + 1 from by simp] at this
        rw [cell_block _ _ _ _ _ _ this]; rfl
      have hd1 := decode1_x P HP wL.heap.size g w.heap.size (wL.heap.size + 1) _ xs ((wL.alloc (.cells #[.slice bao xs.length bc, .bool true, .int .i64 0] 82)).alloc (.cells #[.pointer (some ⟨wL.heap.size, 0, none⟩)] 62)) hrd ((hx.kept hk (fun f => f)).kept hk0 (fun f => f)) (by omega) (by omega) hb ((hk0.block w.heap.size (by omega) (fun f => f)).trans hl) (by omega) (by omega) hpp (by omega) (by omega)
      refine (read_c (.pointer (some ⟨w.heap.size, 0, none⟩)) bao xs.length bc wL _ _ _ hd1).mono ?_
      rintro e w' (⟨m, w1, rfl, ⟨ys, rest, v', q1, rfl, q3, q4, q5⟩, hr', hk'⟩ | ⟨flt, w1, rfl, ⟨q1, q5⟩, hr', hk'⟩ | ⟨q, older, w1, hne, hpl, rfl, hq, _⟩)
      · refine ⟨(((hk.trans hk0).step q5 (fun i hi e => by omega))).step hk' (fun i hi e => by omega), .inl ⟨ys, rest, v', q1, rfl, hk'.cell q3 (by show ¬ w.heap.size = _; omega), ?_⟩⟩
        exact Joins.ownsRow_le (hk'.ownsRow q4 (fun q hq e => by have := (q4.lt q hq).1; omega)) (by omega)
      · exact ⟨(((hk.trans hk0).step q5 (fun i hi e => by omega))).step hk' (fun i hi e => by omega), .inr ⟨flt, q1, rfl⟩⟩
      · exact hq.elim
    have HFA := hid_of (fun flt (h : listD P xs = .error flt) => listD_fault hb h)
    have HL : Hid (¬ 1048576 < xs.length) := hlong
    rw [← hn] at HF ⊢
    clear hx hn HP hb hlong
    go_enter Tryz.func9, Tryz.ntmps9
    go_upto_region 4 with fail
    have HC := hid_of (HF.out _ hkL hlb hszL)
    clear hkL hlb hszL HF
    generalize w.alloc (.cells #[.slice none 0 0] 22) = wL at *
    go_wp2_with fail
    refine HC.out.mono ?_
    rintro e w2 ⟨hk2, ⟨ys, rest, v', q1, rfl, q3, q4⟩ | ⟨flt, q1, rfl⟩⟩
    · by_cases hpos : 0 < rest.length
      · have HR : Hid (DecR P xs w (.returned (.tuple #[.slice none 0 0, .int .i64 13])) w2) := ⟨hk2, by rw [if_neg HL.out, q1]; dsimp only; rw [if_pos hpos]⟩
        rw [show tailOf rest.length 0 = 13 from if_pos hpos]
        clear hk2 q1 q3 q4 HC
        go_wp2
        go_ret2
        exact HR.out
      · obtain ⟨lo, lc, hv'⟩ := ownsRow_shape q4
        have HR : Hid (DecR P xs w (.returned (.tuple #[v', .int .i64 0])) w2) := ⟨hk2, by rw [if_neg HL.out, q1]; dsimp only; rw [if_neg hpos]; exact ⟨v', rfl, q4⟩⟩
        rw [show tailOf rest.length 0 = 0 from if_neg hpos]
        subst hv'
        clear hk2 q1 q4 HC
        go_wp2
        go_ret2
        exact HR.out
    · have hf0 := HFA.out flt q1
      have hfb : (flt != 0) = true := by simpa using hf0
      have HR : Hid (DecR P xs w (.returned (.tuple #[.slice none 0 0, .int .i64 flt])) w2) := ⟨hk2, by rw [if_neg HL.out, q1]⟩
      clear hk2 q1 HC
      go_wp2
      go_ret2
      exact HR.out
end Go.Proofs.YtcpkbajmilkhpabGreatDoor

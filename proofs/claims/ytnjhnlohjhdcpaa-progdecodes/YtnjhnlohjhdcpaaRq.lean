/-
  The reference's get, and its Decode's steps (pure).
-/
import Derived.Test.YtnjhnlohjhdcpaaSef
import Derived.Test.YtnjhnlohjhdcpaaRh
import Derived.Test.YtnjhnlohjhdcpaaSg
namespace Go.Proofs.Ytnjhnlohjhdcpaa
open Go.ChangeShapes Go.WideShapes Go.ChangeAt Go.RowKit Go.Deep
set_option linter.unusedVariables false
set_option linter.unusedSimpArgs false
set_option maxRecDepth 100000

/-- The next number, the next bytes; behind a fault nothing is read. -/
def stN (s : Except Int (List Int)) : Int × Except Int (List Int) :=
  match s with
  | .error f => (0, .error f)
  | .ok ys => match numD ys with
    | .error f => (0, .error f)
    | .ok (u, r) => (u, .ok r)
def stB (s : Except Int (List Int)) : List Int × Except Int (List Int) :=
  match s with
  | .error f => ([], .error f)
  | .ok ys => match bytesD ys with
    | .error f => ([], .error f)
    | .ok (bs, r) => (bs, .ok r)
def erS : Except Int (List Int) → Int
  | .error f => f
  | .ok _ => 0
def okS : Except Int (List Int) → Prop
  | .error f => f ≠ 0
  | .ok ys => BytesOk ys
theorem okS_zero {s : Except Int (List Int)} (h : okS s) (h0 : erS s = 0) : ∃ ys, s = .ok ys ∧ BytesOk ys := by
  cases s with
  | error f => exact absurd h0 h
  | ok ys => exact ⟨ys, rfl, h⟩
theorem stN_ok {s : Except Int (List Int)} (h : okS s) : okS (stN s).2 ∧ 0 ≤ (stN s).1 ∧ (stN s).1 ≤ 9223372036854775807 := by
  cases s with
  | error f => exact ⟨h, by show (0 : Int) ≤ 0; decide, by show (0 : Int) ≤ 9223372036854775807; decide⟩
  | ok ys =>
    unfold stN
    dsimp only
    cases h1 : numD ys with
    | error f => exact ⟨numD_fault (And.left (show BytesOk ys from h)) h1, by show (0 : Int) ≤ 0; decide, by show (0 : Int) ≤ 9223372036854775807; decide⟩
    | ok q =>
      obtain ⟨u, r⟩ := q
      obtain ⟨_, h2, h3⟩ := numD_split (And.left (show BytesOk ys from h)) h1
      exact ⟨numD_rest h h1, h2, h3⟩
theorem stB_ok {s : Except Int (List Int)} (h : okS s) : okS (stB s).2 ∧ BytesOk (stB s).1 := by
  cases s with
  | error f => exact ⟨h, ⟨fun x hx => (by cases hx), Nat.zero_le _⟩⟩
  | ok ys =>
    unfold stB
    dsimp only
    cases h1 : bytesD ys with
    | error f => exact ⟨bytesD_fault (And.left (show BytesOk ys from h)) h1, ⟨fun x hx => (by cases hx), Nat.zero_le _⟩⟩
    | ok q =>
      obtain ⟨u, r⟩ := q
      exact ⟨(bytesD_ok h h1).2, (bytesD_ok h h1).1⟩
/-- A function by steps. -/
theorem fnD_steps (ys : List Int) (hb : BytesOk ys) (a l r : Int) (bs : List Int) (s1 s2 s3 s4 : Except Int (List Int)) (h1 : (a, s1) = stN (.ok ys)) (h2 : (l, s2) = stN s1) (h3 : (r, s3) = stN s2) (h4 : (bs, s4) = stB s3) :
    (erS s4 ≠ 0 → fnD ys = .error (erS s4)) ∧ ∀ rest, s4 = .ok rest → fnD ys = match decD bs with
      | .error f => .error f
      | .ok cs => .ok (⟨a, l, r, cs⟩, rest) := by
  unfold stN at h1
  dsimp only at h1
  unfold fnD
  cases e1 : numD ys with
  | error f =>
    have hf := numD_fault hb.1 e1
    rw [e1] at h1
    cases h1
    cases h2
    cases h3
    cases h4
    exact ⟨fun _ => rfl, fun rest h => by cases h⟩
  | ok q1 =>
    obtain ⟨a', r1⟩ := q1
    rw [e1] at h1
    cases h1
    unfold stN at h2
    dsimp only at h2 ⊢
    cases e2 : numD r1 with
    | error f =>
      rw [e2] at h2
      cases h2
      cases h3
      cases h4
      exact ⟨fun _ => rfl, fun rest h => by cases h⟩
    | ok q2 =>
      obtain ⟨l', r2⟩ := q2
      rw [e2] at h2
      cases h2
      unfold stN at h3
      dsimp only at h3 ⊢
      cases e3 : numD r2 with
      | error f =>
        rw [e3] at h3
        cases h3
        cases h4
        exact ⟨fun _ => rfl, fun rest h => by cases h⟩
      | ok q3 =>
        obtain ⟨r', r3⟩ := q3
        rw [e3] at h3
        cases h3
        unfold stB at h4
        dsimp only at h4 ⊢
        cases e4 : bytesD r3 with
        | error f =>
          rw [e4] at h4
          cases h4
          exact ⟨fun _ => rfl, fun rest h => by cases h⟩
        | ok q4 =>
          obtain ⟨bs', r4⟩ := q4
          rw [e4] at h4
          cases h4
          exact ⟨fun h => absurd rfl h, fun rest h => by cases h; rfl⟩
/-- A program by steps. -/
theorem progD_steps (ys : List Int) (hb : BytesOk ys) (t m n : Int) (d : List Int) (s1 s2 s3 s4 : Except Int (List Int)) (h1 : (t, s1) = stN (.ok ys)) (h2 : (m, s2) = stN s1) (h3 : (d, s3) = stB s2) (h4 : (n, s4) = stN s3) :
    (erS s1 = 0 → t ≠ 2 → progD ys = .error 52) ∧ ((erS s1 ≠ 0 ∨ t = 2) → (erS s4 ≠ 0 → progD ys = .error (erS s4)) ∧ ∀ rest, s4 = .ok rest → progD ys = if 64 < n then .error 121 else match fnsD n.toNat rest with
      | .error f => .error f
      | .ok (fs, r4) => .ok (⟨m, d, fs⟩, r4)) := by
  unfold stN at h1
  dsimp only at h1
  unfold progD
  cases e1 : numD ys with
  | error f =>
    have hf := numD_fault hb.1 e1
    rw [e1] at h1
    cases h1
    cases h2
    cases h3
    cases h4
    exact ⟨fun h => absurd h hf, fun _ => ⟨fun _ => rfl, fun rest h => by cases h⟩⟩
  | ok q1 =>
    obtain ⟨t', r0⟩ := q1
    rw [e1] at h1
    cases h1
    dsimp only
    refine ⟨fun _ ht => by rw [if_neg ht], fun ht => ?_⟩
    have ht2 : t = 2 := by
      rcases ht with ht | ht
      · exact absurd rfl ht
      · exact ht
    rw [if_pos ht2]
    unfold stN at h2
    dsimp only at h2
    cases e2 : numD r0 with
    | error f =>
      rw [e2] at h2
      cases h2
      cases h3
      cases h4
      exact ⟨fun _ => rfl, fun rest h => by cases h⟩
    | ok q2 =>
      obtain ⟨m', r1⟩ := q2
      rw [e2] at h2
      cases h2
      unfold stB at h3
      dsimp only at h3 ⊢
      cases e3 : bytesD r1 with
      | error f =>
        rw [e3] at h3
        cases h3
        cases h4
        exact ⟨fun _ => rfl, fun rest h => by cases h⟩
      | ok q3 =>
        obtain ⟨d', r2⟩ := q3
        rw [e3] at h3
        cases h3
        unfold stN at h4
        dsimp only at h4 ⊢
        cases e4 : numD r2 with
        | error f =>
          rw [e4] at h4
          cases h4
          exact ⟨fun _ => rfl, fun rest h => by cases h⟩
        | ok q4 =>
          obtain ⟨n', r3⟩ := q4
          rw [e4] at h4
          cases h4
          exact ⟨fun h => absurd rfl h, fun rest h => by cases h; rfl⟩

/-- The reference's Reader in memory, with or without a fault. -/
def RS (w : World) (r : Nat) (v : Value) (xs : List Int) : Except Int (List Int) → Prop
  | .ok rest => ∃ q, rest = xs.drop q ∧ q ≤ xs.length ∧ RR w r v q 0
  | .error f => f ≠ 0 ∧ ∃ q, RR w r v q f
theorem RS.kept {S : Nat → Prop} {w w' : World} {r : Nat} {v : Value} {xs : List Int} {s : Except Int (List Int)} (h : RS w r v xs s) (hk : Kept S w w') (hS : ¬ S r) : RS w' r v xs s := by
  cases s with
  | ok rest => obtain ⟨q, h1, h2, h3⟩ := h; exact ⟨q, h1, h2, h3.kept hk hS⟩
  | error f => obtain ⟨h0, q, h3⟩ := h; exact ⟨h0, q, h3.kept hk hS⟩
theorem RS.blk {w : World} {r : Nat} {v : Value} {xs : List Int} {s : Except Int (List Int)} (h : RS w r v xs s) : ∃ q : Nat, w.heap[r]? = some (.cells #[v, .int .i64 (q : Int), .int .i64 (erS s)] 71 (0, 0)) := by
  cases s with
  | ok rest => obtain ⟨q, _, _, h3⟩ := h; exact ⟨q, h3⟩
  | error f => obtain ⟨_, q, h3⟩ := h; exact ⟨q, h3⟩
theorem zrow (w : World) (g : Nat) (c : Array Value) (h : w.heap[g]? = some (.cells c 63 (0, 0))) (hc : c.size = 3) (vs : Array Value) : (w.setRow g vs).heap[g]? = some (.cells vs 63 (0, 0)) := setRow_heap w g c vs 63 (0, 0) h

/-- What get leaves: a number; bytes. -/
def GtN (s : Except Int (List Int)) (xs : List Int) (r : Nat) (v : Value) (w : World) (e : Ending) (w' : World) : Prop :=
  (∃ (kk : Int) (bo : Option Addr) (bn bc : Nat), e = .returned (.agg #[.int .i64 kk, .int .i64 (stN s).1, .slice bo bn bc])) ∧ RS w' r v xs (stN s).2 ∧ Kept (fun q => q = r) w w'
def GtB (s : Except Int (List Int)) (xs : List Int) (r : Nat) (v : Value) (w : World) (e : Ending) (w' : World) : Prop :=
  (∃ (kk nn : Int) (bv : Value), e = .returned (.agg #[.int .i64 kk, .int .i64 nn, bv]) ∧ IsB w' bv (stB s).1 ∧ ∀ b, bv.ownBlock = some b → w.heap.size ≤ b ∧ b < w'.heap.size) ∧ RS w' r v xs (stB s).2 ∧ Kept (fun q => q = r) w w'
set_option maxHeartbeats 4000000 in
theorem get_f (r : Nat) (v : Value) (f k : Int) (q : Nat) (w : World) (h : RR w r v q f) (hf : f ≠ 0) :
    Calls Try.prog 35 #[.pointer (some ⟨r, 0, none⟩), .int .i64 k] w fun e w' => e = .returned (.agg #[.int .i64 0, .int .i64 0, .slice none 0 0]) ∧ Kept (fun _ => False) w w' := by
  have hkA : Kept (fun _ => False) w (w.alloc (.cells #[.int .i64 0, .int .i64 0, .slice none 0 0] 63)) := (Kept.refl _ _).alloc _
  have hz := heap_alloc_new w (.cells #[.int .i64 0, .int .i64 0, .slice none 0 0] 63)
  have c2 := cell_block _ r 2 _ _ _ (h.kept hkA (fun f => f))
  have hkr := kept_row (w.alloc (.cells #[.int .i64 0, .int .i64 0, .slice none 0 0] 63)) w.heap.size #[.int .i64 0, .int .i64 0, .slice none 0 0]
  have HXR := hid_of (setRow_heap _ w.heap.size _ #[.int .i64 0, .int .i64 0, .slice none 0 0] 63 (0, 0) hz)
  have HK : Hid (Kept (fun _ => False) w ((w.alloc (.cells #[.int .i64 0, .int .i64 0, .slice none 0 0] 63)).setRow w.heap.size #[.int .i64 0, .int .i64 0, .slice none 0 0])) := hkA.step hkr (fun i hi e => by omega)
  have hb1 : (f == 0) = false := by simp; exact hf
  have hb2 : (f != 0) = true := by simp; exact hf
  have hrl : r < w.heap.size := (Array.getElem?_eq_some_iff.1 h).1
  clear h hkA hkr hf
  go_enter Try.func35, Try.ntmps35
  go_upto_region 1 with fail
  generalize w.alloc (.cells #[.int .i64 0, .int .i64 0, .slice none 0 0] 63) = w0 at *
  go_wp2_with (refine wpList_store_row rfl 63 _ _ rfl w.heap.size #[.int .i64 0, .int .i64 0, .slice none 0 0] rfl rfl 63 _ hz size82 rfl (three_one _ _ _ rfl rfl rfl) ?_)
  refine bodyPost_ret (v := .agg #[.int .i64 0, .int .i64 0, .slice none 0 0]) ?_ rfl ⟨rfl, HK.out⟩
  exact results_cell_row (by rfl) _ _ w.heap.size 63 _ (0, 0) _ (by rfl) HXR.out Try.underlying63 rfl size82
set_option maxHeartbeats 4000000 in
theorem get_r (r : Nat) (v : Value) (xs : List Int) (k : Int) (p : Nat) (w : World) (h : RR w r v p 0) (R : Ending → World → Prop) (hR : Calls Try.prog 59 #[.pointer (some ⟨r, 0, none⟩), .int .i64 k, .int .i64 0] (w.alloc (.cells #[.int .i64 0, .int .i64 0, .slice none 0 0] 63)) fun e w' => ∃ (kk nn : Int) (bo : Option Addr) (bn bc : Nat), e = .returned (.agg #[.int .i64 kk, .int .i64 nn, .slice bo bn bc]) ∧ Kept (fun q => q = r) (w.alloc (.cells #[.int .i64 0, .int .i64 0, .slice none 0 0] 63)) w' ∧ ∀ W2, Kept (fun q => q = w.heap.size) w' W2 → R (.returned (.agg #[.int .i64 kk, .int .i64 nn, .slice bo bn bc])) W2) :
    Calls Try.prog 35 #[.pointer (some ⟨r, 0, none⟩), .int .i64 k] w R := by
  have hkA : Kept (fun _ => False) w (w.alloc (.cells #[.int .i64 0, .int .i64 0, .slice none 0 0] 63)) := (Kept.refl _ _).alloc _
  have hz := heap_alloc_new w (.cells #[.int .i64 0, .int .i64 0, .slice none 0 0] 63)
  have c2 := cell_block _ r 2 _ _ _ (h.kept hkA (fun f => f))
  have hrl : r < w.heap.size := (Array.getElem?_eq_some_iff.1 h).1
  have hsz : (w.alloc (.cells #[.int .i64 0, .int .i64 0, .slice none 0 0] 63)).heap.size = w.heap.size + 1 := by simp
  have HC := hid_of hR
  clear h hkA hR
  go_enter Try.func35, Try.ntmps35
  go_upto_region 1 with fail
  generalize w.alloc (.cells #[.int .i64 0, .int .i64 0, .slice none 0 0] 63) = w0 at *
  go_wp2_with fail
  refine HC.out.mono ?_
  rintro e w1 ⟨kk, nn, bo, bn, bc, rfl, hk1, hfin⟩
  have hz1 := box_kept hk1 hz (by omega)
  have hkr := kept_row w1 w.heap.size #[.int .i64 kk, .int .i64 nn, .slice bo bn bc]
  have HXR := hid_of (setRow_heap _ w.heap.size _ #[.int .i64 kk, .int .i64 nn, .slice bo bn bc] 63 (0, 0) hz1)
  have HFIN := hid_of (hfin (w1.setRow w.heap.size #[.int .i64 kk, .int .i64 nn, .slice bo bn bc]) hkr)
  clear hk1 hfin hkr HC c2 hsz hz
  go_wp2_with (refine wpList_store_row rfl 63 _ _ rfl w.heap.size #[.int .i64 kk, .int .i64 nn, .slice bo bn bc] rfl rfl 63 _ hz1 size82 rfl (three_one _ _ _ rfl rfl rfl) ?_)
  refine bodyPost_ret (v := .agg #[.int .i64 kk, .int .i64 nn, .slice bo bn bc]) ?_ rfl HFIN.out
  exact results_cell_row (by rfl) _ _ w.heap.size 63 _ (0, 0) _ (by rfl) HXR.out Try.underlying63 rfl size82
theorem get_n (r : Nat) (v : Value) (xs : List Int) (s : Except Int (List Int)) (w : World) (h : RS w r v xs s) (hx : IsB w v xs) (hb : BytesOk xs) : Calls Try.prog 35 #[.pointer (some ⟨r, 0, none⟩), .int .i64 1] w (GtN s xs r v w) := by
  cases s with
  | error f =>
    obtain ⟨hf, q, hr⟩ := h
    refine (get_f r v f 1 q w hr hf).mono ?_
    rintro e w' ⟨rfl, hk⟩
    exact ⟨⟨0, none, 0, 0, rfl⟩, ⟨hf, q, hr.kept hk (fun f => f)⟩, hk.mono (fun _ _ f => f.elim)⟩
  | ok rest =>
    obtain ⟨p, hp, hpl, hr⟩ := h
    subst hp
    have hrl : r < w.heap.size := (Array.getElem?_eq_some_iff.1 hr).1
    have hW : Kept (fun _ => False) w (w.alloc (.cells #[.int .i64 0, .int .i64 0, .slice none 0 0] 63)) := (Kept.refl _ _).alloc _
    have hWs : (w.alloc (.cells #[.int .i64 0, .int .i64 0, .slice none 0 0] 63)).heap.size = w.heap.size + 1 := by simp
    refine get_r r v xs 1 p w hr (GtN (.ok (xs.drop p)) xs r v w) ?_
    generalize w.alloc (.cells #[.int .i64 0, .int .i64 0, .slice none 0 0] 63) = W at *
    refine (rnum_ref r v xs p W (hr.kept hW (fun f => f)) (hx.kept hW (fun _ _ f => f)) hb hpl).mono ?_
    intro e w' hrd
    unfold GtN stN
    dsimp only
    cases hd : numD (xs.drop p) with
    | error f =>
      have hf := numD_fault (drop_ok hb p).1 hd
      unfold RdN at hrd
      rw [hd] at hrd
      obtain ⟨q, rfl, h2, h3⟩ := hrd
      exact ⟨1, 0, none, 0, 0, rfl, h3, fun W2 hk2 => ⟨⟨1, none, 0, 0, rfl⟩, ⟨hf, q, h2.kept hk2 (by omega)⟩, ((hW.mono (fun _ _ f => f.elim)).trans h3).step hk2 (fun i hi e => by omega)⟩⟩
    | ok pr =>
      obtain ⟨u, rest⟩ := pr
      unfold RdN at hrd
      rw [hd] at hrd
      obtain ⟨q, bo, bc, h0, h1, rfl, h2, h3⟩ := hrd
      exact ⟨1, u, bo, 0, bc, rfl, h3, fun W2 hk2 => ⟨⟨1, bo, 0, bc, rfl⟩, ⟨q, h0, h1, h2.kept hk2 (by omega)⟩, ((hW.mono (fun _ _ f => f.elim)).trans h3).step hk2 (fun i hi e => by omega)⟩⟩
theorem get_b (r : Nat) (v : Value) (xs : List Int) (s : Except Int (List Int)) (w : World) (h : RS w r v xs s) (hx : IsB w v xs) (hb : BytesOk xs) (hc : Capd v xs.length) : Calls Try.prog 35 #[.pointer (some ⟨r, 0, none⟩), .int .i64 4] w (GtB s xs r v w) := by
  cases s with
  | error f =>
    obtain ⟨hf, q, hr⟩ := h
    refine (get_f r v f 4 q w hr hf).mono ?_
    rintro e w' ⟨rfl, hk⟩
    exact ⟨⟨0, 0, .slice none 0 0, rfl, .inl ⟨rfl, none, 0, rfl⟩, fun b hb => by cases hb⟩, ⟨hf, q, hr.kept hk (fun f => f)⟩, hk.mono (fun _ _ f => f.elim)⟩
  | ok rest =>
    obtain ⟨p, hp, hpl, hr⟩ := h
    subst hp
    have hrl : r < w.heap.size := (Array.getElem?_eq_some_iff.1 hr).1
    have hW : Kept (fun _ => False) w (w.alloc (.cells #[.int .i64 0, .int .i64 0, .slice none 0 0] 63)) := (Kept.refl _ _).alloc _
    have hWs : (w.alloc (.cells #[.int .i64 0, .int .i64 0, .slice none 0 0] 63)).heap.size = w.heap.size + 1 := by simp
    refine get_r r v xs 4 p w hr (GtB (.ok (xs.drop p)) xs r v w) ?_
    generalize w.alloc (.cells #[.int .i64 0, .int .i64 0, .slice none 0 0] 63) = W at *
    refine (read_ref4 r v xs p 0 W (hr.kept hW (fun f => f)) (hx.kept hW (fun _ _ f => f)) hb hc hpl).mono ?_
    intro e w' hrd
    unfold GtB stB
    dsimp only
    have hone : oneD 4 0 (xs.drop p) = lift2 (bytesD (xs.drop p)) := rfl
    cases hd : bytesD (xs.drop p) with
    | error f =>
      have hf := bytesD_fault (drop_ok hb p).1 hd
      rw [hd] at hone
      rcases hrd with ⟨g, q, bv, h1, _⟩ | ⟨f', q, h1, rfl, h3, h4⟩
      · rw [hone] at h1; cases h1
      · rw [hone] at h1
        cases h1
        exact ⟨4, 0, none, 0, 0, rfl, h4, fun W2 hk2 => ⟨⟨4, 0, .slice none 0 0, rfl, .inl ⟨rfl, none, 0, rfl⟩, fun b hb => by cases hb⟩, ⟨hf, q, h3.kept hk2 (by omega)⟩, ((hW.mono (fun _ _ f => f.elim)).trans h4).step hk2 (fun i hi e => by omega)⟩⟩
    | ok pr =>
      obtain ⟨bs, rest⟩ := pr
      rw [hd] at hone
      rcases hrd with ⟨g, q, bv, h1, h2, rfl, h4, h5, h6, h7⟩ | ⟨f', q, h1, _⟩
      · rw [hone] at h1
        cases h1
        obtain ⟨bo, bc, hbv⟩ := h4.shape
        subst hbv
        exact ⟨4, 0, bo, bs.length, bc, rfl, h7, fun W2 hk2 => ⟨⟨4, 0, _, rfl, h4.kept hk2 (fun b hb e => by have := (h5 b hb).1; omega), fun b hb => ⟨by have := (h5 b hb).1; have := hW.size; omega, Nat.lt_of_lt_of_le (h5 b hb).2 hk2.size⟩⟩, ⟨q, rfl, h2, h6.kept hk2 (by omega)⟩, ((hW.mono (fun _ _ f => f.elim)).trans h7).step hk2 (fun i hi e => by omega)⟩⟩
      · rw [hone] at h1; cases h1
end Go.Proofs.Ytnjhnlohjhdcpaa

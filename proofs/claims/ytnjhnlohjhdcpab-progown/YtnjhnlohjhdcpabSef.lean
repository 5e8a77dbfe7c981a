/-
  Sef: Se, Sf.
-/
import Derived.Test.YtnjhnlohjhdcpabQp
import Derived.Test.YtnjhnlohjhdcpabMx
import Derived.Test.YtnjhnlohjhdcpabPbx
import Derived.Test.YtnjhnlohjhdcpabGrw
import Derived.Test.YtnjhnlohjhdcpabWdz
import Derived.Test.YtnjhnlohjhdcpabQde
namespace Go.Proofs.Ytnjhnlohjhdcpab
open Go.ChangeShapes Go.WideShapes Go.ChangeAt Go.RowKit Go.Deep
set_option linter.unusedVariables false
set_option linter.unusedSimpArgs false
set_option maxRecDepth 100000

/-- A function out of bytes. -/
def fnD (xs : List Int) : Except Int (FN × List Int) :=
  match numD xs with
  | .error f => .error f
  | .ok (a, r1) => match numD r1 with
    | .error f => .error f
    | .ok (l, r2) => match numD r2 with
      | .error f => .error f
      | .ok (r, r3) => match bytesD r3 with
        | .error f => .error f
        | .ok (bs, r4) => match decD bs with
          | .error f => .error f
          | .ok ys => .ok (⟨a, l, r, ys⟩, r4)
/-- So many functions out of bytes. -/
def fnsD : Nat → List Int → Except Int (List FN × List Int)
  | 0, xs => .ok ([], xs)
  | n + 1, xs => match fnD xs with
    | .error f => .error f
    | .ok (F, r) => match fnsD n r with
      | .error f => .error f
      | .ok (fs, r') => .ok (F :: fs, r')
/-- A program out of bytes. -/
def progD (xs : List Int) : Except Int (PG × List Int) :=
  match numD xs with
  | .error f => .error f
  | .ok (t, r0) => if t = 2 then match numD r0 with
      | .error f => .error f
      | .ok (mem, r1) => match bytesD r1 with
        | .error f => .error f
        | .ok (d, r2) => match numD r2 with
          | .error f => .error f
          | .ok (n, r3) => if 64 < n then .error 121 else match fnsD n.toNat r3 with
            | .error f => .error f
            | .ok (fs, r4) => .ok (⟨mem, d, fs⟩, r4)
    else .error 52
/-- What Decode tells. -/
def decPD (xs : List Int) : Except Int PG :=
  if 1048576 < xs.length then .error 2 else match progD xs with
    | .error f => .error f
    | .ok (p, rest) => if rest.length = 0 then (if checkP p = 0 then .ok p else .error (checkP p)) else .error 13

theorem bytesD_ok {xs bs rest : List Int} (hb : BytesOk xs) (h : bytesD xs = .ok (bs, rest)) : BytesOk bs ∧ BytesOk rest := by
  unfold bytesD at h
  cases h1 : numD xs with
  | error f => rw [h1] at h; cases h
  | ok q =>
    obtain ⟨u, r⟩ := q
    rw [h1] at h
    dsimp only at h
    have hr := numD_rest hb h1
    unfold rawD at h
    split at h
    · cases h
    · split at h
      · cases h
      · cases h
        exact ⟨⟨fun x hx => hr.1 x (List.mem_of_mem_take hx), by rw [List.length_take]; have := hr.2; omega⟩, ⟨fun x hx => hr.1 x (List.mem_of_mem_drop hx), by rw [List.length_drop]; have := hr.2; omega⟩⟩
theorem isR_own2 {w : World} {base d : Nat} {v : Value} {n : Nat} {xs : List Int} (h : w.ownsRow base 5 1 v n (xs.map (Value.int .u8))) (hd : d < w.heap.size) : ∃ g, g < w.heap.size ∧ IsR w g v xs := by
  have hn : xs.length = n := by have := h.1; simpa using this
  rcases h.2 with ⟨rfl, h0⟩ | ⟨g, cap, cur, rfl, hb, hg, hc, hm, hs, ht⟩
  · exact ⟨d, hd, .inl ⟨List.length_eq_zero_iff.1 (by omega), none, .inl rfl, rfl⟩⟩
  · refine ⟨g, (Array.getElem?_eq_some_iff.1 hg).1, ?_⟩
    by_cases h0 : cap = 0
    · subst h0
      have : n = 0 := by omega
      subst this
      exact .inl ⟨List.length_eq_zero_iff.1 hn, _, .inr ⟨0, rfl⟩, rfl⟩
    · refine .inr ⟨0, cap, by rw [hn], by omega, by omega, hm, fun i hi => ?_⟩
      have := h.cells (g := g) rfl i (.int .u8 (xs.getD i 0)) (by simp [List.getD, hi])
      rw [Addr.add_lit] at this
      exact this

/-- What function leaves. -/
def FnP (xs : List Int) (r g : Nat) (f : Int) (w : World) : Ending → World → Prop :=
  Outs (fnD xs) r g f w (fun F e w' => ∃ cv, e = .returned (.agg (F.cells cv).toArray) ∧ w'.ownsRow w.heap.size 46 2 cv F.code.length (icells F.code) ∧ F.Ok)
theorem FnP.bad {xs : List Int} {r g : Nat} {f flt : Int} {w w2 : World} (h : fnD xs = .error flt) (hr : Rd w2 r (.slice none 0 0) false flt) (hk : Kept (fun q => q = r) w w2) : FnP xs r g f w (.panicked [{ v := thrownV r, recovered := false }]) w2 := by
  unfold FnP Outs
  rw [h]
  exact ⟨rfl, hr, hk⟩
theorem FnP.good {xs rest : List Int} {r g : Nat} {f : Int} {w w2 : World} {F : FN} {cv : Value} (h : fnD xs = .ok (F, rest)) (ho : w2.ownsRow w.heap.size 46 2 cv F.code.length (icells F.code)) (hF : F.Ok) (ha : After w w2 r g f rest) : FnP xs r g f w (.returned (.agg (F.cells cv).toArray)) w2 := by
  unfold FnP Outs
  rw [h]
  exact ⟨⟨cv, rfl, ho, hF⟩, ha⟩
theorem size50 : (Try.prog.info? 44).map (·.size) = some 4 := by kernel_rfl
theorem size25 : (Try.prog.info? 25).map (·.size) = some 3 := by kernel_rfl
theorem four_one (a b c d : Value) (ha : a.oneCell' = true) (hb : b.oneCell' = true) (hc : c.oneCell' = true) (hd : d.oneCell' = true) : #[a, b, c, d].all (·.oneCell') = true := by
  simp [ha, hb, hc, hd]

set_option maxHeartbeats 16000000 in
theorem function_x (r g : Nat) (v : Value) (xs : List Int) (w : World) (f : Int) (hr : Rd w r v true f) (hx : IsR w g v xs) (hgr : g ≠ r) (hgl : g < w.heap.size) (hb : BytesOk xs) :
    Calls Try.prog 44 #[.pointer (some ⟨r, 0, none⟩)] w (FnP xs r g f w) := by
  have hrl : r < w.heap.size := hr.cells.2.2.2.2.2.2
  have hk0 : Kept (fun q => q = r) w (w.alloc (.cells #[.int .i64 0, .int .i64 0, .int .i64 0, .slice none 0 0] 44)) := (Kept.refl _ _).alloc _
  have hz0 := heap_alloc_new w (.cells #[.int .i64 0, .int .i64 0, .int .i64 0, .slice none 0 0] 44)
  have hk00 : Kept (fun _ => False) w (w.alloc (.cells #[.int .i64 0, .int .i64 0, .int .i64 0, .slice none 0 0] 44)) := (Kept.refl _ _).alloc _
  have hN1 := num_x r g v xs _ f (hr.kept hk00 (fun f => f)) (hx.kept hk00 (fun f => f)) hgr hb.1
  have HB := hid_of hb
  have HZ0 := hid_of hz0
  have HK0 := hid_of hk0
  clear hr hx hk0 hz0 hk00 hb
  go_enter Try.func44, Try.ntmps44
  go_wp2_with fail
  generalize w.alloc (.cells #[.int .i64 0, .int .i64 0, .int .i64 0, .slice none 0 0] 44) = w0 at *
  cases h1 : numD xs with
  | error flt =>
    have HE : Hid (fnD xs = .error flt) := by unfold Hid fnD; rw [h1]
    rw [h1] at hN1
    have HN := hid_of hN1
    clear hN1 h1
    refine HN.out.mono ?_
    rintro e w2 ⟨rfl, h2, h3⟩
    exact ⟨rfl, FnP.bad HE.out h2 (HK0.out.trans h3)⟩
  | ok q1 =>
    obtain ⟨a, r1⟩ := q1
    rw [h1] at hN1
    have HN := hid_of hN1
    have HB1 := hid_of (numD_rest HB.out h1)
    have H1 := hid_of h1
    clear hN1 h1
    refine HN.out.mono ?_
    rintro e w2 ⟨⟨rfl, ha0, ha1⟩, v2, b1, b2, b3⟩
    have hN2 := num_x r g v2 r1 w2 f b1 b2 hgr HB1.out.1
    have HK2 := hid_of (HK0.out.trans b3)
    have HZ2 : Hid (w2.heap[w.heap.size]? = some (.cells #[.int .i64 0, .int .i64 0, .int .i64 0, .slice none 0 0] 44 (0, 0))) := (b3.block _ (Array.getElem?_eq_some_iff.1 HZ0.out).1 (by omega)).trans HZ0.out
    clear b1 b2 b3 HN HK0 HZ0
    go_wp2_with fail
    cases h2 : numD r1 with
    | error flt =>
      have HE : Hid (fnD xs = .error flt) := by unfold Hid fnD; rw [H1.out]; dsimp only; rw [h2]
      rw [h2] at hN2
      have HN := hid_of hN2
      clear hN2 h2
      refine HN.out.mono ?_
      rintro e w3 ⟨rfl, h2, h3⟩
      exact ⟨rfl, FnP.bad HE.out h2 (HK2.out.trans h3)⟩
    | ok q2 =>
      obtain ⟨l, r2⟩ := q2
      rw [h2] at hN2
      have HN := hid_of hN2
      have HB2 := hid_of (numD_rest HB1.out h2)
      have H2 := hid_of h2
      clear hN2 h2
      refine HN.out.mono ?_
      rintro e w3 ⟨⟨rfl, hl0, hl1⟩, v3, b1, b2, b3⟩
      have hN3 := num_x r g v3 r2 w3 f b1 b2 hgr HB2.out.1
      have HK3 := hid_of (HK2.out.trans b3)
      have HZ3 : Hid (w3.heap[w.heap.size]? = some (.cells #[.int .i64 0, .int .i64 0, .int .i64 0, .slice none 0 0] 44 (0, 0))) := (b3.block _ (Array.getElem?_eq_some_iff.1 HZ2.out).1 (by omega)).trans HZ2.out
      clear b1 b2 b3 HN HK2 HZ2
      go_wp2_with fail
      cases h3 : numD r2 with
      | error flt =>
        have HE : Hid (fnD xs = .error flt) := by unfold Hid fnD; rw [H1.out]; dsimp only; rw [H2.out]; dsimp only; rw [h3]
        rw [h3] at hN3
        have HN := hid_of hN3
        clear hN3 h3
        refine HN.out.mono ?_
        rintro e w4 ⟨rfl, h2, h3⟩
        exact ⟨rfl, FnP.bad HE.out h2 (HK3.out.trans h3)⟩
      | ok q3 =>
        obtain ⟨rr, r3⟩ := q3
        rw [h3] at hN3
        have HN := hid_of hN3
        have HB3 := hid_of (numD_rest HB2.out h3)
        have H3 := hid_of h3
        clear hN3 h3
        refine HN.out.mono ?_
        rintro e w4 ⟨⟨rfl, hr0, hr1⟩, v4, b1, b2, b3⟩
        have hk4 : Kept (fun _ => False) w4 (w4.alloc (.cells #[.int .i64 a, .int .i64 l, .int .i64 rr, .slice none 0 0] 44)) := (Kept.refl _ _).alloc _
        have hf4 := heap_alloc_new w4 (.cells #[.int .i64 a, .int .i64 l, .int .i64 rr, .slice none 0 0] 44)
        have hgw : g < w4.heap.size := Nat.lt_of_lt_of_le hgl (Nat.le_trans HK3.out.size b3.size)
        have hww : w.heap.size < w4.heap.size := Nat.lt_of_lt_of_le (Array.getElem?_eq_some_iff.1 HZ3.out).1 b3.size
        have hN4 := bytes_x r g v4 r3 _ f (b1.kept hk4 (fun f => f)) (b2.kept hk4 (fun f => f)) hgr (Nat.lt_of_lt_of_le hgw hk4.size) (by have := HB3.out.2; omega) HB3.out.1
        have HK4 := hid_of ((HK3.out.trans b3).trans (hk4.mono (fun _ _ f => f.elim)))
        have HF4 := hid_of hf4
        have HZ4 : Hid ((w4.alloc (.cells #[.int .i64 a, .int .i64 l, .int .i64 rr, .slice none 0 0] 44)).heap[w.heap.size]? = some (.cells #[.int .i64 0, .int .i64 0, .int .i64 0, .slice none 0 0] 44 (0, 0))) := (hk4.block _ hww (fun f => f)).trans ((b3.block _ (Array.getElem?_eq_some_iff.1 HZ3.out).1 (by omega)).trans HZ3.out)
        have hrw : r < w4.heap.size := by omega
        clear b1 b2 b3 HN HK3 HZ3 hk4 hf4
        go_wp2_with fail
        generalize w4.alloc (.cells #[.int .i64 a, .int .i64 l, .int .i64 rr, .slice none 0 0] 44) = w5 at *
        generalize w4.heap.size = gf at *
        cases h4 : bytesD r3 with
        | error flt =>
          have HE : Hid (fnD xs = .error flt) := by unfold Hid fnD; rw [H1.out]; dsimp only; rw [H2.out]; dsimp only; rw [H3.out]; dsimp only; rw [h4]
          rw [h4] at hN4
          have HN := hid_of hN4
          clear hN4 h4
          refine HN.out.mono ?_
          rintro e w6 ⟨rfl, h2, h3⟩
          exact ⟨rfl, FnP.bad HE.out h2 (HK4.out.trans h3)⟩
        | ok q4 =>
          obtain ⟨bs, r4⟩ := q4
          rw [h4] at hN4
          have HN := hid_of hN4
          have HB4 := hid_of (bytesD_ok HB3.out h4)
          have H4 := hid_of h4
          clear hN4 h4
          refine HN.out.mono ?_
          rintro e w6 ⟨⟨v6, rfl, ho6⟩, vr6, b1, b2, b3⟩
          obtain ⟨bo, bc, hv6⟩ := ownsRow_shape ho6
          obtain ⟨gd, hgd, hri⟩ := isR_own2 ho6 (d := r) (Nat.lt_of_lt_of_le hrl (Nat.le_trans HK4.out.size b3.size))
          subst hv6
          have HD := hid_of (decode_x gd bo bc bs w6 hri hgd HB4.out.1)
          have HR6 := hid_of b1
          have HI6 := hid_of b2
          have HK6 := hid_of (HK4.out.trans b3)
          have HZ6 : Hid (w6.heap[w.heap.size]? = some (.cells #[.int .i64 0, .int .i64 0, .int .i64 0, .slice none 0 0] 44 (0, 0))) := (b3.block _ (Array.getElem?_eq_some_iff.1 HZ4.out).1 (by omega)).trans HZ4.out
          have HF6 : Hid (w6.heap[gf]? = some (.cells #[.int .i64 a, .int .i64 l, .int .i64 rr, .slice none 0 0] 44 (0, 0))) := (b3.block _ (Array.getElem?_eq_some_iff.1 HF4.out).1 (by omega)).trans HF4.out
          clear b1 b2 b3 ho6 hri hgd HN HK4 HZ4 HF4
          obtain ⟨nb, hnb⟩ : ∃ n, n = bs.length := ⟨_, rfl⟩
          rw [← hnb] at HD ⊢
          clear hnb
          go_wp2_with fail
          refine HD.out.mono ?_
          rintro e w7 ⟨hk7, he7⟩
          have HR7 := hid_of (HR6.out.kept hk7 (fun f => f))
          have HI7 := hid_of (HI6.out.kept hk7 (fun f => f))
          have HK7 := hid_of (HK6.out.trans (hk7.mono (fun _ _ f => f.elim)))
          have HZ7 : Hid (w7.heap[w.heap.size]? = some (.cells #[.int .i64 0, .int .i64 0, .int .i64 0, .slice none 0 0] 44 (0, 0))) := (hk7.block _ (Array.getElem?_eq_some_iff.1 HZ6.out).1 (fun f => f)).trans HZ6.out
          have HF7 : Hid (w7.heap[gf]? = some (.cells #[.int .i64 a, .int .i64 l, .int .i64 rr, .slice none 0 0] 44 (0, 0))) := (hk7.block _ (Array.getElem?_eq_some_iff.1 HF6.out).1 (fun f => f)).trans HF6.out
          have HS67 : Hid (w.heap.size ≤ w6.heap.size ∧ gf < w6.heap.size) := ⟨HK6.out.size, (Array.getElem?_eq_some_iff.1 HF6.out).1⟩
          clear hk7 HD HR6 HI6 HK6 HZ6 HF6
          cases h5 : decD bs with
          | error flt =>
            have HE : Hid (fnD xs = .error flt) := by unfold Hid fnD; rw [H1.out]; dsimp only; rw [H2.out]; dsimp only; rw [H3.out]; dsimp only; rw [H4.out]; dsimp only; rw [h5]
            have hfl := decD_fault HB4.out.1 h5
            rw [h5] at he7
            subst he7
            have HFA := hid_of (fail_x r _ f flt w7 HR7.out hfl)
            clear h5 hfl
            go_wp2_with fail
            refine HFA.out.mono ?_
            rintro e w8 ⟨rfl, h2, h3⟩
            exact ⟨rfl, FnP.bad HE.out h2 (HK7.out.trans h3)⟩
          | ok ys =>
            have HG : Hid (fnD xs = .ok (⟨a, l, rr, ys⟩, r4)) := by unfold Hid fnD; rw [H1.out]; dsimp only; rw [H2.out]; dsimp only; rw [H3.out]; dsimp only; rw [H4.out]; dsimp only; rw [h5]
            have hyl := decD_len h5
            rw [h5] at he7
            obtain ⟨⟨cv, rfl, hcv⟩, hyok⟩ := he7
            obtain ⟨co, cc, hcs⟩ := ownsRow_shape hcv
            obtain ⟨nc, hnc⟩ : ∃ n, n = ys.length := ⟨_, rfl⟩
            rw [← hnc] at hcs
            subst hcs
            have hks := kept_set w7 gf 3 (.slice co nc cc)
            have hF8 : (w7.setCell ⟨gf, 3, none⟩ (.slice co nc cc)).heap[gf]? = some (.cells #[.int .i64 a, .int .i64 l, .int .i64 rr, .slice co nc cc] 44 (0, 0)) := set_block _ _ 3 _ _ _ HF7.out _
            have hZ8 : (w7.setCell ⟨gf, 3, none⟩ (.slice co nc cc)).heap[w.heap.size]? = some (.cells #[.int .i64 0, .int .i64 0, .int .i64 0, .slice none 0 0] 44 (0, 0)) := (hks.block _ (Array.getElem?_eq_some_iff.1 HZ7.out).1 (by omega)).trans HZ7.out
            have hkr := kept_row (w7.setCell ⟨gf, 3, none⟩ (.slice co nc cc)) w.heap.size #[.int .i64 a, .int .i64 l, .int .i64 rr, .slice co nc cc]
            have HXR := hid_of (setRow_heap (w7.setCell ⟨gf, 3, none⟩ (.slice co nc cc)) w.heap.size _ #[.int .i64 a, .int .i64 l, .int .i64 rr, .slice co nc cc] 44 (0, 0) hZ8)
            have HFIN : Hid (FnP xs r g f w (.returned (.agg #[.int .i64 a, .int .i64 l, .int .i64 rr, .slice co nc cc])) ((w7.setCell ⟨gf, 3, none⟩ (.slice co nc cc)).setRow w.heap.size #[.int .i64 a, .int .i64 l, .int .i64 rr, .slice co nc cc])) := by
              refine FnP.good (F := ⟨a, l, rr, ys⟩) (cv := .slice co nc cc) HG.out ?_ ⟨⟨by show (-9223372036854775808 : Int) ≤ a; omega, by show a < 9223372036854775808; omega⟩, ⟨by show (-9223372036854775808 : Int) ≤ l; omega, by show l < 9223372036854775808; omega⟩, ⟨by show (-9223372036854775808 : Int) ≤ rr; omega, by show rr < 9223372036854775808; omega⟩, hyok, by show ys.length * 16 ≤ _; omega⟩ ⟨vr6, (HR7.out.kept hks (by omega)).kept hkr (by omega), (HI7.out.kept hks (by omega)).kept hkr (by omega), (HK7.out.step hks (fun i hi e => by omega)).step hkr (fun i hi e => by omega)⟩
              refine own_mono (hkr.ownsRow (hks.ownsRow hcv (fun q hq e => ?_)) (fun q hq e => ?_)) HS67.out.1
              · have := (hcv.lt q hq).1; have := HS67.out.2; omega
              · have := (hcv.lt q hq).1; have := HS67.out.2; omega
            have c3 := cell_block _ gf 3 _ _ _ HF7.out
            have cf := frozen_block _ gf 3 _ _ HF7.out
            have HFO := hid_of (fail_ok r w7)
            clear h5 hcv hyok hyl hnc hks hkr HG HR7 HI7 HK7
            have HF8 := hid_of hF8
            clear hF8
            go_wp2_with fail
            refine HFO.out.mono ?_
            rintro e w8 ⟨rfl, rfl⟩
            clear HFO
            have y0 := cell_block _ gf 0 _ _ _ HF8.out
            have y1 := cell_block _ gf 1 _ _ _ HF8.out
            have y2 := cell_block _ gf 2 _ _ _ HF8.out
            have y3 := cell_block _ gf 3 _ _ _ HF8.out
            go_upto_region 5 with fail
            clear c3 cf
            generalize w8.setCell ⟨gf, 3, none⟩ (.slice co nc cc) = w9 at *
            go_wp2_with (refine wpList_store_row rfl 44 _ _ rfl w.heap.size #[.int .i64 a, .int .i64 l, .int .i64 rr, .slice co nc cc] rfl rfl 44 _ hZ8 size50 rfl (four_one _ _ _ _ rfl rfl rfl rfl) ?_)
            refine bodyPost_ret (v := .agg #[.int .i64 a, .int .i64 l, .int .i64 rr, .slice co nc cc]) ?_ rfl HFIN.out
            exact results_cell_row (by rfl) _ _ w.heap.size 44 _ (0, 0) _ (by rfl) HXR.out Try.underlying44 rfl size50
end Go.Proofs.Ytnjhnlohjhdcpab

namespace Go.Proofs.Ytnjhnlohjhdcpab
open Go.ChangeShapes Go.WideShapes Go.ChangeAt Go.RowKit Go.Deep
set_option linter.unusedVariables false
set_option linter.unusedSimpArgs false
set_option maxRecDepth 100000

theorem own_unlike {w : World} {b b' e e' s s' n n' : Nat} {v v' : Value} {xs xs' : List Value} (h : w.ownsRow b e s v n xs) (h' : w.ownsRow b' e' s' v' n' xs') (hne : e ≠ e') : ∀ q, v.ownBlock = some q → v'.ownBlock ≠ some q := by
  intro q hq hq'
  rcases h.2 with ⟨rfl, _⟩ | ⟨g, cap, cur, rfl, _, hg, _⟩
  · cases hq
  · rcases h'.2 with ⟨rfl, _⟩ | ⟨g', cap', cur', rfl, _, hg', _⟩
    · cases hq'
    · have e1 : g = q := Option.some.inj hq
      have e2 : g' = q := Option.some.inj hq'
      subst e1
      subst e2
      rw [hg] at hg'
      cases hg'
      exact hne rfl
theorem own_box {w : World} {b e s n t B : Nat} {v : Value} {xs : List Value} {c : Array Value} (h : w.ownsRow b e s v n xs) (hB : w.heap[B]? = some (.cells c t (0, 0))) (hne : t ≠ e) : v.ownBlock ≠ some B := by
  intro hq
  rcases h.2 with ⟨rfl, _⟩ | ⟨g, cap, cur, rfl, _, hg, _⟩
  · cases hq
  · have e1 : g = B := Option.some.inj hq
    subst e1
    rw [hg] at hB
    cases hB
    exact hne rfl
/-- The cells of functions whose codes lie in these slices. -/
def fcells : List FN → List Value → List Value
  | f :: fs, cv :: cvs => f.cells cv ++ fcells fs cvs
  | _, _ => []
theorem fcells_snoc : ∀ (fs : List FN) (cvs : List Value) (f : FN) (cv : Value), cvs.length = fs.length → fcells (fs ++ [f]) (cvs ++ [cv]) = fcells fs cvs ++ f.cells cv
  | [], [], f, cv, _ => by simp [fcells]
  | [], _ :: _, _, _, h => by simp at h
  | _ :: _, [], _, _, h => by simp at h
  | g :: fs, c :: cvs, f, cv, h => by
    show g.cells c ++ fcells (fs ++ [f]) (cvs ++ [cv]) = g.cells c ++ fcells fs cvs ++ f.cells cv
    rw [fcells_snoc fs cvs f cv (by simpa using h), List.append_assoc]
theorem fcells_at : ∀ (fs : List FN) (cvs : List Value) (i : Nat) (f : FN) (cv : Value), fs[i]? = some f → cvs[i]? = some cv → ∀ j, j < 4 → (fcells fs cvs)[i * 4 + j]? = (f.cells cv)[j]?
  | [], _, i, f, cv, h, _, _, _ => by simp at h
  | _ :: _, [], i, f, cv, _, h, _, _ => by simp at h
  | g :: fs, c :: cvs, 0, f, cv, h, h', j, hj => by
    simp at h h'
    subst h
    subst h'
    show (g.cells c ++ fcells fs cvs)[0 * 4 + j]? = _
    rw [Nat.zero_mul, Nat.zero_add, List.getElem?_append_left (by simpa [FN.cells] using hj)]
  | g :: fs, c :: cvs, i + 1, f, cv, h, h', j, hj => by
    show (g.cells c ++ fcells fs cvs)[(i + 1) * 4 + j]? = _
    rw [List.getElem?_append_right (by simp [FN.cells]; omega)]
    have := fcells_at fs cvs i f cv (by simpa using h) (by simpa using h') j hj
    rw [← this]
    congr 1
    simp only [FN.cells, List.length_cons, List.length_nil]
    omega
/-- Functions in rows of their own, all apart. -/
structure OwnF (base : Nat) (w : World) (fv : Value) (fs : List FN) (cvs : List Value) : Prop where
  len : cvs.length = fs.length
  row : w.ownsRow base 44 4 fv fs.length (fcells fs cvs)
  at' : ∀ (i : Nat) (f : FN) (cv : Value), fs[i]? = some f → cvs[i]? = some cv → w.ownsRow base 46 2 cv f.code.length (icells f.code)
  apart : ∀ (i j : Nat) (c c' : Value), i < j → cvs[i]? = some c → cvs[j]? = some c' → ∀ q, c.ownBlock = some q → c'.ownBlock ≠ some q
theorem OwnF.kept {S : Nat → Prop} {base : Nat} {w w' : World} {fv : Value} {fs : List FN} {cvs : List Value} (h : OwnF base w fv fs cvs) (hk : Kept S w w') (hS : ∀ q, base ≤ q → ¬ S q) : OwnF base w' fv fs cvs :=
  ⟨h.len, hk.ownsRow h.row (fun q hq => hS q (h.row.lt q hq).1), fun i f cv hf hc => hk.ownsRow (h.at' i f cv hf hc) (fun q hq => hS q ((h.at' i f cv hf hc).lt q hq).1), h.apart⟩
theorem OwnF.kept' {S : Nat → Prop} {base : Nat} {w w' : World} {fv : Value} {fs : List FN} {cvs : List Value} (h : OwnF base w fv fs cvs) (hk : Kept S w w') (h1 : ∀ q, fv.ownBlock = some q → ¬ S q) (h2 : ∀ c ∈ cvs, ∀ q, c.ownBlock = some q → ¬ S q) : OwnF base w' fv fs cvs :=
  ⟨h.len, hk.ownsRow h.row h1, fun i f cv hf hc => hk.ownsRow (h.at' i f cv hf hc) (h2 cv (List.mem_of_getElem? hc)), h.apart⟩
theorem OwnF.nil (base : Nat) (w : World) : OwnF base w (.slice none 0 0) [] [] := ⟨rfl, World.ownsRow_nil _ _ _ _, fun i f cv h => by simp at h, fun i j c c' _ h => by simp at h⟩
theorem OwnF.mem {base : Nat} {w : World} {fv : Value} {fs : List FN} {cvs : List Value} (h : OwnF base w fv fs cvs) {c : Value} (hc : c ∈ cvs) : ∃ (i : Nat) (f : FN), fs[i]? = some f ∧ cvs[i]? = some c ∧ w.ownsRow base 46 2 c f.code.length (icells f.code) := by
  obtain ⟨i, hi, e⟩ := List.mem_iff_getElem.1 hc
  have h1 : cvs[i]? = some c := by rw [List.getElem?_eq_getElem hi, e]
  have hf : i < fs.length := by rw [← h.len]; exact hi
  exact ⟨i, fs[i], List.getElem?_eq_getElem hf, h1, h.at' i _ _ (List.getElem?_eq_getElem hf) h1⟩
theorem OwnF.box {base : Nat} {w w' : World} {fv : Value} {fs : List FN} {cvs : List Value} {B t : Nat} {c : Array Value} (h : OwnF base w fv fs cvs) (hB : w.heap[B]? = some (.cells c t (0, 0))) (h1 : t ≠ 44) (h2 : t ≠ 46) (hk : Kept (fun k => k = B) w w') : OwnF base w' fv fs cvs :=
  h.kept' hk (fun q hq e => by subst e; exact own_box h.row hB h1 hq) (fun c hc q hq e => by
    subst e
    obtain ⟨i, F, _, _, ho⟩ := h.mem hc
    exact own_box ho hB h2 hq)
theorem OwnF.rowF {base : Nat} {w : World} {fv : Value} {fs : List FN} {cvs : List Value} (h : OwnF base w fv fs cvs) : RowF w w.heap.size fv fs := by
  rcases h.row.2 with ⟨rfl, h0⟩ | ⟨g, cap, cur, rfl, hrest⟩
  · exact .inl ⟨List.length_eq_zero_iff.1 h0, _, _, by rw [h0] at *⟩
  · refine .inr ⟨g, 0, cap, rfl, (h.row.lt g rfl).2, fun i f hf => ?_⟩
    have hi : i < fs.length := (List.getElem?_eq_some_iff.1 hf).1
    obtain ⟨cv, hcv⟩ : ∃ cv, cvs[i]? = some cv := ⟨_, List.getElem?_eq_getElem (by rw [h.len]; exact hi)⟩
    have ho := h.at' i f cv hf hcv
    refine ⟨cv, fun j u hj => ?_, rowI_own ho, fun q hq _ => (ho.lt q hq).2⟩
    have hj4 : j < 4 := by
      have := (List.getElem?_eq_some_iff.1 hj).1
      simpa [FN.cells] using this
    have h1 := fcells_at fs cvs i f cv hf hcv j hj4
    rw [hj] at h1
    rw [show 0 + i * 4 + j = i * 4 + j by omega, h.row.cellAt _ (by omega), h1]
theorem Try.info44 : (Try.prog.info? 44).map (fun i => (i.zero, i.size, i.bytes)) = some (some (.agg #[.int .i64 0, .int .i64 0, .int .i64 0, .slice none 0 0]), 4, 48) := by kernel_rfl
/-- One more function. -/
theorem OwnF.app {base : Nat} {W : World} {fv : Value} {fs : List FN} {cvs : List Value} (h : OwnF base W fv fs cvs) (f : FN) (cv : Value) (hcv : W.ownsRow base 46 2 cv f.code.length (icells f.code)) (hnew : ∀ q, cv.ownBlock = some q → ∀ c ∈ cvs, c.ownBlock ≠ some q) (hone : cv.oneCell' = true) (hb : base ≤ W.heap.size) (hsz : (fs.length + 1) * 48 ≤ 140737488355328) :
    ∃ fv' w', (Builtin.append_ #[23, 23] 23 #[fv, .slice (some ⟨W.heap.size, 0, none⟩) 1 1]).run Try.prog (W.alloc (.cells #[.int .i64 f.a, .int .i64 f.l, .int .i64 f.r, cv] 44)) = .ok fv' w' ∧ OwnF base w' fv' (fs ++ [f]) (cvs ++ [cv]) ∧ Kept (fun k => fv.ownBlock = some k) W w' := by
  obtain ⟨i0, hi, hz0, hz1, hz2⟩ := info_parts Try.info44
  obtain ⟨v', w', hr, h2, h3, h4, _⟩ := append_old (P := Try.prog) (W.alloc (.cells #[.int .i64 f.a, .int .i64 f.l, .int .i64 f.r, cv] 44)) base 23 23 44 i0 _ 4 48 Try.underlying23 hi hz0 hz1 hz2 rfl (by decide) fv fs.length (fcells fs cvs) (h.row.alloc _) ⟨W.heap.size, 0, none⟩ 1 1 (f.cells cv) rfl (fun j u hj => by
    rw [Addr.add_lit, cell_block _ _ _ _ _ _ (heap_alloc_new W _), Nat.zero_add]
    simpa [FN.cells] using hj) (fun u hu => by
    simp [FN.cells] at hu
    rcases hu with rfl | rfl | rfl | rfl
    · rfl
    · rfl
    · rfl
    · exact hone) (by unfold maxLen; omega) hsz (by simp; omega)
  have hk : Kept (fun k => fv.ownBlock = some k) W w' := ((Kept.refl _ W).alloc _).grown h3 (fun k hk => .inr hk)
  have hun : ∀ {c : Value} {g : FN}, W.ownsRow base 46 2 c g.code.length (icells g.code) → w'.ownsRow base 46 2 c g.code.length (icells g.code) := fun hc => hk.ownsRow hc (fun q hq e => own_unlike hc h.row (by decide) q hq e)
  refine ⟨v', w', hr, ⟨by simp [h.len], by rw [fcells_snoc _ _ _ _ h.len, List.length_append]; exact h2, fun i F c hF hc => ?_, fun i j c c' hij hc hc' q hq hq' => ?_⟩, hk⟩
  · by_cases hl : i < fs.length
    · rw [List.getElem?_append_left hl] at hF
      rw [List.getElem?_append_left (by rw [h.len]; exact hl)] at hc
      exact hun (h.at' i F c hF hc)
    · have hl2 : i < (fs ++ [f]).length := (List.getElem?_eq_some_iff.1 hF).1
      rw [List.length_append] at hl2
      have hl3 : i = fs.length := by simp at hl2; omega
      subst hl3
      rw [List.getElem?_append_right (Nat.le_refl _)] at hF
      rw [← h.len, List.getElem?_append_right (Nat.le_refl _)] at hc
      simp at hF hc
      subst hF
      subst hc
      exact hun hcv
  · have hjl : j < (cvs ++ [cv]).length := (List.getElem?_eq_some_iff.1 hc').1
    rw [List.length_append] at hjl
    have hil : i < cvs.length := by simp at hjl; omega
    rw [List.getElem?_append_left hil] at hc
    by_cases hl : j < cvs.length
    · rw [List.getElem?_append_left hl] at hc'
      exact h.apart i j c c' hij hc hc' q hq hq'
    · have hl3 : j = cvs.length := by simp at hjl; omega
      subst hl3
      rw [List.getElem?_append_right (Nat.le_refl _)] at hc'
      simp at hc'
      subst hc'
      exact hnew q hq' c (List.mem_of_getElem? hc) hq
/-- A program in memory of its own. -/
structure OwnP (base : Nat) (w : World) (dv fv : Value) (cvs : List Value) (p : PG) : Prop where
  dat : w.ownsRow base 5 1 dv p.data.length (p.data.map (Value.int .u8))
  fns : OwnF base w fv p.fns cvs
theorem OwnP.kept {S : Nat → Prop} {base : Nat} {w w' : World} {dv fv : Value} {cvs : List Value} {p : PG} (h : OwnP base w dv fv cvs p) (hk : Kept S w w') (hS : ∀ q, base ≤ q → ¬ S q) : OwnP base w' dv fv cvs p := ⟨hk.ownsRow h.dat (fun q hq => hS q (h.dat.lt q hq).1), h.fns.kept hk hS⟩
theorem OwnP.pg {base : Nat} {w : World} {dv fv : Value} {cvs : List Value} {p : PG} (h : OwnP base w dv fv cvs p) : PgIs w w.heap.size (.agg #[.int .i64 p.mem, dv, fv]) p :=
  ⟨dv, fv, rfl, isB_own h.dat, fun q hq => (h.dat.lt q hq).2, h.fns.rowF⟩
theorem OwnF.mono {base base' : Nat} {w : World} {fv : Value} {fs : List FN} {cvs : List Value} (h : OwnF base w fv fs cvs) (hb : base' ≤ base) : OwnF base' w fv fs cvs := ⟨h.len, own_mono h.row hb, fun i f cv hf hc => own_mono (h.at' i f cv hf hc) hb, h.apart⟩
theorem OwnP.mono {base base' : Nat} {w : World} {dv fv : Value} {cvs : List Value} {p : PG} (h : OwnP base w dv fv cvs p) (hb : base' ≤ base) : OwnP base' w dv fv cvs p := ⟨own_mono h.dat hb, h.fns.mono hb⟩

/-- What program leaves. -/
def ProgP (xs : List Int) (r g : Nat) (f : Int) (w : World) : Ending → World → Prop :=
  Outs (progD xs) r g f w (fun p e w' => ∃ dv fv cvs, e = .returned (.agg #[.int .i64 p.mem, dv, fv]) ∧ OwnP w.heap.size w' dv fv cvs p ∧ p.Ok)
theorem ProgP.bad {xs : List Int} {r g : Nat} {f flt : Int} {w w2 : World} (h : progD xs = .error flt) (hr : Rd w2 r (.slice none 0 0) false flt) (hk : Kept (fun q => q = r) w w2) : ProgP xs r g f w (.panicked [{ v := thrownV r, recovered := false }]) w2 := by
  unfold ProgP Outs
  rw [h]
  exact ⟨rfl, hr, hk⟩
def joinF (fs : List FN) : Except Int (List FN × List Int) → Except Int (List FN × List Int)
  | .error f => .error f
  | .ok (gs, r) => .ok (fs ++ gs, r)
theorem joinF_nil (d : Except Int (List FN × List Int)) : joinF [] d = d := by cases d <;> rfl
theorem joinF_ok {fs : List FN} {F : FN} {m : Nat} {xs rest : List Int} (h : fnD xs = .ok (F, rest)) : joinF fs (fnsD (m + 1) xs) = joinF (fs ++ [F]) (fnsD m rest) := by
  show joinF fs (match fnD xs with | .error f => .error f | .ok (F, r) => match fnsD m r with | .error f => .error f | .ok (fs, r') => .ok (F :: fs, r')) = _
  rw [h]
  dsimp only
  cases fnsD m rest with
  | error e => rfl
  | ok q => obtain ⟨gs, r⟩ := q; simp [joinF]
theorem joinF_bad {fs : List FN} {m : Nat} {xs : List Int} {f : Int} (h : fnD xs = .error f) : joinF fs (fnsD (m + 1) xs) = .error f := by
  show joinF fs (match fnD xs with | .error f => .error f | .ok (F, r) => match fnsD m r with | .error f => .error f | .ok (fs, r') => .ok (F :: fs, r')) = _
  rw [h]
  rfl
theorem fnD_rest {xs rest : List Int} {F : FN} (hb : BytesOk xs) (h : fnD xs = .ok (F, rest)) : BytesOk rest := by
  unfold fnD at h
  cases h1 : numD xs with
  | error f => rw [h1] at h; cases h
  | ok q1 =>
    obtain ⟨a, r1⟩ := q1
    rw [h1] at h
    dsimp only at h
    cases h2 : numD r1 with
    | error f => rw [h2] at h; cases h
    | ok q2 =>
      obtain ⟨l, r2⟩ := q2
      rw [h2] at h
      dsimp only at h
      cases h3 : numD r2 with
      | error f => rw [h3] at h; cases h
      | ok q3 =>
        obtain ⟨r, r3⟩ := q3
        rw [h3] at h
        dsimp only at h
        cases h4 : bytesD r3 with
        | error f => rw [h4] at h; cases h
        | ok q4 =>
          obtain ⟨bs, r4⟩ := q4
          rw [h4] at h
          dsimp only at h
          cases h5 : decD bs with
          | error f => rw [h5] at h; cases h
          | ok ys =>
            rw [h5] at h
            cases h
            exact (bytesD_ok (numD_rest (numD_rest (numD_rest hb h1) h2) h3) h4).2
/-- What holds at the head of the loop. -/
structure PrK (w wr : World) (r g : Nat) (f : Int) (gz gp : Nat) (mem : Int) (dv : Value) (d : List Int) (fv : Value) (fs : List FN) (cvs : List Value) (n : Nat) (xs rest : List Int) : Prop where
  pl : fnsD n xs = joinF fs (fnsD (n - fs.length) rest)
  blk : wr.heap[gp]? = some (.cells #[.int .i64 mem, dv, fv] 25 (0, 0))
  res : wr.heap[gz]? = some (.cells #[.int .i64 0, .slice none 0 0, .slice none 0 0] 25 (0, 0))
  own : OwnF w.heap.size wr fv fs cvs
  dat : wr.ownsRow w.heap.size 5 1 dv d.length (d.map (Value.int .u8))
  aft : After w wr r g f rest
  ok : BytesOk rest
  all : ∀ F ∈ fs, F.Ok
  off : w.heap.size ≤ gp ∧ w.heap.size ≤ gz ∧ gp ≠ gz ∧ r < w.heap.size ∧ g < w.heap.size ∧ g ≠ r
theorem PrK.drew {w wr : World} {r g : Nat} {f : Int} {gz gp : Nat} {mem : Int} {dv : Value} {d : List Int} {fv : Value} {fs : List FN} {cvs : List Value} {n : Nat} {xs rest : List Int} (h : PrK w wr r g f gz gp mem dv d fv fs cvs n xs rest) : PrK w wr.drew r g f gz gp mem dv d fv fs cvs n xs rest := by
  have hk : Kept (fun _ => False) wr wr.drew := (Kept.refl _ _).drew
  obtain ⟨va, q1, q2, q3⟩ := h.aft
  exact ⟨h.pl, h.blk, h.res, h.own.kept hk (fun _ _ f => f), hk.ownsRow h.dat (fun _ _ f => f), ⟨va, q1.kept hk (fun f => f), q2.kept hk (fun f => f), q3.trans (hk.mono (fun _ _ f => f.elim))⟩, h.ok, h.all, h.off⟩
theorem haf_cell {w wr w5 : World} {r g : Nat} {f : Int} {gz gp : Nat} {mem : Int} {dv : Value} {d : List Int} {fv : Value} {fs : List FN} {cvs : List Value} {n : Nat} {xs rest r5 : List Int} (h : PrK w wr r g f gz gp mem dv d fv fs cvs n xs rest) (ha : After wr.drew w5 r g f r5) : w5.cell? ⟨gp, 2, none⟩ = some fv := by
  obtain ⟨va, q1, q2, q3⟩ := ha
  have h1 := (q3.block gp (Array.getElem?_eq_some_iff.1 h.drew.blk).1 (by have := h.off; omega)).trans h.drew.blk
  exact cell_block _ gp 2 _ _ _ h1
/-- One function more. -/
theorem PrK.next {w wr w5 : World} {r g : Nat} {f : Int} {gz gp : Nat} {mem : Int} {dv : Value} {d : List Int} {fv : Value} {fs : List FN} {cvs : List Value} {n : Nat} {xs rest r5 : List Int} {F : FN} {cv : Value} (h : PrK w wr r g f gz gp mem dv d fv fs cvs n xs rest) (hd : fnD rest = .ok (F, r5)) (hn : fs.length < n) (hcv : w5.ownsRow wr.drew.heap.size 46 2 cv F.code.length (icells F.code)) (hF : F.Ok) (ha : After wr.drew w5 r g f r5) (hone : cv.oneCell' = true) (hsz : n ≤ 64) :
    ∃ fv' w7, (Builtin.append_ #[23, 23] 23 #[fv, .slice (some ⟨w5.heap.size, 0, none⟩) 1 1]).run Try.prog (w5.alloc (.cells #[.int .i64 F.a, .int .i64 F.l, .int .i64 F.r, cv] 44)) = .ok fv' w7 ∧ w7.heap[gp]? = some (.cells #[.int .i64 mem, dv, fv] 25 (0, 0)) ∧ PrK w (w7.setCell ⟨gp, 2, none⟩ fv') r g f gz gp mem dv d fv' (fs ++ [F]) (cvs ++ [cv]) n xs r5 := by
  have h' := h.drew
  obtain ⟨va, q1, q2, q3⟩ := ha
  obtain ⟨vb, s1, s2, s3⟩ := h'.aft
  have ho := h.off
  have hbs : w.heap.size ≤ wr.drew.heap.size := s3.size
  have hown5 : OwnF w.heap.size w5 fv fs cvs := h'.own.kept q3 (fun q hq e => by omega)
  have blk5 := (q3.block gp (Array.getElem?_eq_some_iff.1 h'.blk).1 (by omega)).trans h'.blk
  have res5 := (q3.block gz (Array.getElem?_eq_some_iff.1 h'.res).1 (by omega)).trans h'.res
  have dat5 := q3.ownsRow h'.dat (fun q hq e => by have := (h'.dat.lt q hq).1; omega)
  obtain ⟨fv', w7, hr, hO, hk⟩ := hown5.app F cv (own_mono hcv hbs) (fun q hq c hc e => by
    obtain ⟨i, G, _, _, hG⟩ := h'.own.mem hc
    have h1 := (hcv.lt q hq).1
    have h2 := (hG.lt q e).2
    omega) hone (Nat.le_trans hbs q3.size) (by omega)
  have hfb : ∀ q, fv.ownBlock = some q → w.heap.size ≤ q := fun q hq => (hown5.row.lt q hq).1
  have blk7 := (hk.block gp (Array.getElem?_eq_some_iff.1 blk5).1 (own_box hown5.row blk5 (by decide))).trans blk5
  have res7 := (hk.block gz (Array.getElem?_eq_some_iff.1 res5).1 (own_box hown5.row res5 (by decide))).trans res5
  have dat7 := hk.ownsRow dat5 (fun q hq e => own_unlike dat5 hown5.row (by decide) q hq e)
  have hks := kept_set w7 gp 2 fv'
  refine ⟨fv', w7, hr, blk7, ⟨?_, set_block _ gp 2 _ _ _ blk7 fv', (hks.block gz (Array.getElem?_eq_some_iff.1 res7).1 (by omega)).trans res7, hO.box blk7 (by decide) (by decide) hks, hks.ownsRow dat7 (fun q hq e => by subst e; exact own_box dat7 blk7 (by decide) hq), ⟨va, (q1.kept hk (fun e => by have := hfb r e; omega)).kept hks (by omega), (q2.kept hk (fun e => by have := hfb g e; omega)).kept hks (by omega), ((s3.trans q3).step hk (fun i hi e => by have := hfb i e; omega)).step hks (fun i hi e => by omega)⟩, fnD_rest h.ok hd, fun G hG => ?_, ho⟩⟩
  · rw [h.pl, show n - fs.length = (n - (fs ++ [F]).length) + 1 by rw [List.length_append]; simp; omega]
    exact joinF_ok hd
  · rcases List.mem_append.1 hG with hG | hG
    · exact h.all G hG
    · have : G = F := by simpa using hG
      rw [this]; exact hF

set_option maxHeartbeats 16000000 in
theorem program_x (r g : Nat) (v : Value) (xs : List Int) (w : World) (f : Int) (hr : Rd w r v true f) (hx : IsR w g v xs) (hgr : g ≠ r) (hgl : g < w.heap.size) (hb : BytesOk xs) :
    Calls Try.prog 29 #[.pointer (some ⟨r, 0, none⟩)] w (ProgP xs r g f w) := by
  have hrl : r < w.heap.size := hr.cells.2.2.2.2.2.2
  have hk0 : Kept (fun q => q = r) w (w.alloc (.cells #[.int .i64 0, .slice none 0 0, .slice none 0 0] 25)) := (Kept.refl _ _).alloc _
  have hz0 := heap_alloc_new w (.cells #[.int .i64 0, .slice none 0 0, .slice none 0 0] 25)
  have hk00 : Kept (fun _ => False) w (w.alloc (.cells #[.int .i64 0, .slice none 0 0, .slice none 0 0] 25)) := (Kept.refl _ _).alloc _
  have hN1 := num_x r g v xs _ f (hr.kept hk00 (fun f => f)) (hx.kept hk00 (fun f => f)) hgr hb.1
  have HB := hid_of hb
  have HZ0 := hid_of hz0
  have HK0 := hid_of hk0
  clear hr hx hk0 hz0 hk00 hb
  go_enter Try.func29, Try.ntmps29
  go_wp2_with fail
  generalize w.alloc (.cells #[.int .i64 0, .slice none 0 0, .slice none 0 0] 25) = w0 at *
  cases h1 : numD xs with
  | error flt =>
    have HE : Hid (progD xs = .error flt) := by unfold Hid progD; rw [h1]
    rw [h1] at hN1
    have HN := hid_of hN1
    clear hN1 h1
    refine HN.out.mono ?_
    rintro e w2 ⟨rfl, h2, h3⟩
    exact ⟨rfl, ProgP.bad HE.out h2 (HK0.out.trans h3)⟩
  | ok q1 =>
    obtain ⟨t, r0⟩ := q1
    rw [h1] at hN1
    have HN := hid_of hN1
    have HB1 := hid_of (numD_rest HB.out h1)
    have H1 := hid_of h1
    clear hN1 h1
    refine HN.out.mono ?_
    rintro e w2 ⟨⟨rfl, ht0, ht1⟩, v2, b1, b2, b3⟩
    have HK2 := hid_of (HK0.out.trans b3)
    by_cases ht : t ≠ 2
    · have HE : Hid (progD xs = .error 52) := by unfold Hid progD; rw [H1.out]; dsimp only; rw [if_neg ht]
      have HFA := hid_of (fail_x r v2 f 52 w2 b1 (by decide))
      have hb1 : (t == 2) = false := by simp; exact ht
      have hb2 : (t != 2) = true := by simp; exact ht
      clear b1 b2 b3 HN
      go_wp2_with fail
      refine HFA.out.mono ?_
      rintro e w8 ⟨rfl, h2, h3⟩
      exact ⟨rfl, ProgP.bad HE.out h2 (HK2.out.trans h3)⟩
    have ht : t = 2 := by omega
    subst ht
    have hN2 := num_x r g v2 r0 w2 f b1 b2 hgr HB1.out.1
    have HZ2 : Hid (w2.heap[w.heap.size]? = some (.cells #[.int .i64 0, .slice none 0 0, .slice none 0 0] 25 (0, 0))) := (b3.block _ (Array.getElem?_eq_some_iff.1 HZ0.out).1 (by omega)).trans HZ0.out
    clear b1 b2 b3 HN HK0 HZ0
    go_wp2_with fail
    cases h2 : numD r0 with
    | error flt =>
      have HE : Hid (progD xs = .error flt) := by unfold Hid progD; rw [H1.out]; dsimp only; rw [if_pos rfl, h2]
      rw [h2] at hN2
      have HN := hid_of hN2
      clear hN2 h2
      refine HN.out.mono ?_
      rintro e w3 ⟨rfl, h2, h3⟩
      exact ⟨rfl, ProgP.bad HE.out h2 (HK2.out.trans h3)⟩
    | ok q2 =>
      obtain ⟨mem, r1⟩ := q2
      rw [h2] at hN2
      have HN := hid_of hN2
      have HB2 := hid_of (numD_rest HB1.out h2)
      have H2 := hid_of h2
      clear hN2 h2
      refine HN.out.mono ?_
      rintro e w3 ⟨⟨rfl, hm0, hm1⟩, v3, b1, b2, b3⟩
      have hN3 := bytes_x r g v3 r1 w3 f b1 b2 hgr (Nat.lt_of_lt_of_le hgl (Nat.le_trans HK2.out.size b3.size)) (by have := HB2.out.2; omega) HB2.out.1
      have HK3 := hid_of (HK2.out.trans b3)
      have HZ3 : Hid (w3.heap[w.heap.size]? = some (.cells #[.int .i64 0, .slice none 0 0, .slice none 0 0] 25 (0, 0))) := (b3.block _ (Array.getElem?_eq_some_iff.1 HZ2.out).1 (by omega)).trans HZ2.out
      clear b1 b2 b3 HN HK2 HZ2
      go_wp2_with fail
      cases h3 : bytesD r1 with
      | error flt =>
        have HE : Hid (progD xs = .error flt) := by unfold Hid progD; rw [H1.out]; dsimp only; rw [if_pos rfl, H2.out]; dsimp only; rw [h3]
        rw [h3] at hN3
        have HN := hid_of hN3
        clear hN3 h3
        refine HN.out.mono ?_
        rintro e w4 ⟨rfl, h2, h3⟩
        exact ⟨rfl, ProgP.bad HE.out h2 (HK3.out.trans h3)⟩
      | ok q3 =>
        obtain ⟨d, r2⟩ := q3
        rw [h3] at hN3
        have HN := hid_of hN3
        have HB3 := hid_of (bytesD_ok HB2.out h3)
        have H3 := hid_of h3
        clear hN3 h3
        refine HN.out.mono ?_
        rintro e w4 ⟨⟨dv, rfl, hdv⟩, v4, b1, b2, b3⟩
        obtain ⟨dao, dc, hds⟩ := ownsRow_shape hdv
        obtain ⟨nd, hnd⟩ : ∃ n, n = d.length := ⟨_, rfl⟩
        rw [← hnd] at hds
        subst hds
        have hk4 : Kept (fun _ => False) w4 (w4.alloc (.cells #[.int .i64 mem, .slice dao nd dc, .slice none 0 0] 25)) := (Kept.refl _ _).alloc _
        have hf4 := heap_alloc_new w4 (.cells #[.int .i64 mem, .slice dao nd dc, .slice none 0 0] 25)
        have hww : w.heap.size < w4.heap.size := Nat.lt_of_lt_of_le (Array.getElem?_eq_some_iff.1 HZ3.out).1 b3.size
        have hN4 := num_x r g v4 r2 _ f (b1.kept hk4 (fun f => f)) (b2.kept hk4 (fun f => f)) hgr HB3.out.2.1
        have HK4 := hid_of ((HK3.out.trans b3).trans (hk4.mono (fun _ _ f => f.elim)))
        have HF4 := hid_of hf4
        have HD4 := hid_of (hk4.ownsRow (own_mono hdv HK3.out.size) (fun _ _ f => f))
        have HZ4 : Hid ((w4.alloc (.cells #[.int .i64 mem, .slice dao nd dc, .slice none 0 0] 25)).heap[w.heap.size]? = some (.cells #[.int .i64 0, .slice none 0 0, .slice none 0 0] 25 (0, 0))) := (hk4.block _ hww (fun f => f)).trans ((b3.block _ (Array.getElem?_eq_some_iff.1 HZ3.out).1 (by omega)).trans HZ3.out)
        clear b1 b2 b3 HN HK3 HZ3 hk4 hf4 hdv hnd
        go_wp2_with fail
        generalize w4.alloc (.cells #[.int .i64 mem, .slice dao nd dc, .slice none 0 0] 25) = w5 at *
        generalize w4.heap.size = gp at *
        cases h4 : numD r2 with
        | error flt =>
          have HE : Hid (progD xs = .error flt) := by unfold Hid progD; rw [H1.out]; dsimp only; rw [if_pos rfl, H2.out]; dsimp only; rw [H3.out]; dsimp only; rw [h4]
          rw [h4] at hN4
          have HN := hid_of hN4
          clear hN4 h4
          refine HN.out.mono ?_
          rintro e w6 ⟨rfl, h2, h3⟩
          exact ⟨rfl, ProgP.bad HE.out h2 (HK4.out.trans h3)⟩
        | ok q4 =>
          obtain ⟨n, r3⟩ := q4
          rw [h4] at hN4
          have HN := hid_of hN4
          have HB4 := hid_of (numD_rest HB3.out.2 h4)
          have HPD : Hid (progD xs = if 64 < n then .error 121 else match fnsD n.toNat r3 with
            | .error f => .error f
            | .ok (fs, r4) => .ok (⟨mem, d, fs⟩, r4)) := by unfold Hid progD; rw [H1.out]; dsimp only; rw [if_pos rfl, H2.out]; dsimp only; rw [H3.out]; dsimp only; rw [h4] <;> rfl
          clear hN4 h4
          refine HN.out.mono ?_
          rintro e w6 ⟨⟨rfl, hn0, hn1⟩, v6, b1, b2, b3⟩
          have HK6 := hid_of (HK4.out.trans b3)
          by_cases hbig : 64 < n
          · have HE : Hid (progD xs = .error 121) := by unfold Hid; rw [HPD.out, if_pos hbig]
            have HFA := hid_of (fail_x r v6 f 121 w6 b1 (by decide))
            clear b1 b2 b3 HN
            go_wp2_with fail
            refine HFA.out.mono ?_
            rintro e w8 ⟨rfl, h2, h3⟩
            exact ⟨rfl, ProgP.bad HE.out h2 (HK6.out.trans h3)⟩
          · obtain ⟨nn, rfl⟩ := Int.eq_ofNat_of_zero_le hn0
            have hPD := HPD.out
            rw [if_neg hbig, Int.toNat_natCast] at hPD
            have HPD2 := hid_of hPD
            have hnn : nn ≤ 64 := by omega
            have HXS := hid_of hnn
            have HZ6 := (b3.block _ (Array.getElem?_eq_some_iff.1 HZ4.out).1 (by omega)).trans HZ4.out
            have HF6 := (b3.block _ (Array.getElem?_eq_some_iff.1 HF4.out).1 (by omega)).trans HF4.out
            have HP0 : Hid (PrK w w6 r g f w.heap.size gp mem (.slice dao nd dc) d (.slice none 0 0) [] [] nn r3 r3) := ⟨(joinF_nil _).symm, HF6, HZ6, OwnF.nil _ _, b3.ownsRow HD4.out (fun q hq e => by have := (HD4.out.lt q hq).1; omega), ⟨v6, b1, b2, HK6.out⟩, HB4.out, fun F hF => by simp at hF, by omega⟩
            have hnI : ¬ ((64 : Int) < (nn : Int)) := by omega
            clear b1 b2 b3 HN HPD hPD HZ6 HF6 hbig hn0 hn1 HF4 HD4 HZ4 HK4
            go_wp2_with fail
            go_loopw [22] (fun i wr => ∃ (k : Nat) (fv : Value) (fs : List FN) (cvs : List Value) (rest : List Int), k ≤ nn ∧ i = .int .i64 k ∧ fs.length = k ∧ Hid (PrK w wr r g f w.heap.size gp mem (.slice dao nd dc) d fv fs cvs nn r3 rest)) (fun i _ => nn - (intOf i).toNat)
            case atStart => exact ⟨0, _, [], [], r3, by omega, rfl, rfl, HP0⟩
            case round =>
              obtain ⟨k, fv, fs, cvs, rest, hk, rfl, hfl, HPK⟩ := hrel
              have HFL := hid_of hfl
              clear hfl HP0
              obtain ⟨fo, fc, hfv⟩ := ownsRow_shape HPK.out.own.row
              rw [HFL.out] at hfv
              subst hfv
              by_cases hlt : k < nn
              · have hltI : (k : Int) < (nn : Int) := by omega
                obtain ⟨va, c1, c2', c3⟩ := HPK.out.drew.aft
                have hFN := function_x r g va rest wr.drew f c1 c2' hgr (Nat.lt_of_lt_of_le hgl c3.size) HPK.out.ok
                have HKW := hid_of c3
                have c2 : wr.cell? ⟨gp, 2, none⟩ = some (.slice fo k fc) := cell_block _ gp 2 _ _ _ HPK.out.blk
                have HNK : Hid (fs.length < nn) := by unfold Hid; rw [HFL.out]; exact hlt
                unfold FnP at hFN
                clear c1 c2' c3
                cases hd : fnD rest with
                | error flt =>
                  have HE : Hid (progD xs = .error flt) := by
                    unfold Hid
                    rw [HPD2.out, HPK.out.pl, HFL.out, show nn - k = (nn - k - 1) + 1 by omega, joinF_bad hd]
                  rw [hd] at hFN
                  have HFN := hid_of hFN
                  clear hFN hd
                  go_upto_region 9 with fail
                  refine wp_region_held_drew (S := fun w' => True) (by kernel_rfl) trivial (fun hHeld => ?_)
                  refine wpAnyH_take (i := 0) (v := ?_) rfl (by kernel_rfl) (by kernel_rfl) (by kernel_rfl) (fun _ _ _ h => h) (Or.inl ⟨by rfl, ?_⟩) (by assumption) ?_
                  rotate_left 1
                  · intro w hSw
                    go_simp
                    try with_reducible rfl
                  try simp only [Act.put, List.getElem_toArray, List.getElem_cons_zero, List.getElem_cons_succ, List.setIfInBounds_toArray, List.set_cons_zero, List.set_cons_succ]
                  refine wpAnyH_take (i := 2) (v := ?_) rfl (by kernel_rfl) (by kernel_rfl) (by kernel_rfl) (fun _ _ _ h => h) (Or.inl ⟨by rfl, ?_⟩) (by assumption) ?_
                  rotate_left 1
                  · intro w hSw
                    go_simp
                    try with_reducible rfl
                  try simp only [Act.put, List.getElem_toArray, List.getElem_cons_zero, List.getElem_cons_succ, List.setIfInBounds_toArray, List.set_cons_zero, List.set_cons_succ]
                  refine wpAnyH_ready (rs := [1, 3]) (by kernel_rfl) (by simp) ?_
                  refine AllReadyH.cons rfl (fun K hK => ?_) (AllReadyH.cons rfl (fun K hK => ?_) AllReadyH.nil)
                  · have q2 := (Kept.drew (Kept.refl (fun _ => False) wr)).cell c2 (fun f => f)
                    go_simp
                    refine hK.out _ _ trivial (fun hHeld => ?_)
                    clear hK K q2
                    try simp only [Act.put, List.getElem_toArray, List.getElem_cons_zero, List.getElem_cons_succ, List.setIfInBounds_toArray, List.set_cons_zero, List.set_cons_succ]
                    refine wpAnyH_ready (rs := [3]) (by kernel_rfl) (by simp) ?_
                    refine AllReadyH.cons rfl (fun K hK => ?_) AllReadyH.nil
                    go_simp
                    refine HFN.out.mono ?_
                    rintro e w5 ⟨rfl, h2, h3⟩
                    exact ⟨rfl, ProgP.bad HE.out h2 (HKW.out.trans h3)⟩
                  · go_simp
                    refine HFN.out.mono ?_
                    rintro e w5 ⟨rfl, h2, h3⟩
                    exact ⟨rfl, ProgP.bad HE.out h2 (HKW.out.trans h3)⟩
                | ok q5 =>
                  obtain ⟨F, r5⟩ := q5
                  rw [hd] at hFN
                  have HFN := hid_of hFN
                  have HDR := hid_of hd
                  clear hFN hd
                  go_upto_region 9 with fail
                  refine wp_region_held_drew (S := fun w' => True) (by kernel_rfl) trivial (fun hHeld => ?_)
                  refine wpAnyH_take (i := 0) (v := ?_) rfl (by kernel_rfl) (by kernel_rfl) (by kernel_rfl) (fun _ _ _ h => h) (Or.inl ⟨by rfl, ?_⟩) (by assumption) ?_
                  rotate_left 1
                  · intro w hSw
                    go_simp
                    try with_reducible rfl
                  try simp only [Act.put, List.getElem_toArray, List.getElem_cons_zero, List.getElem_cons_succ, List.setIfInBounds_toArray, List.set_cons_zero, List.set_cons_succ]
                  refine wpAnyH_take (i := 2) (v := ?_) rfl (by kernel_rfl) (by kernel_rfl) (by kernel_rfl) (fun _ _ _ h => h) (Or.inl ⟨by rfl, ?_⟩) (by assumption) ?_
                  rotate_left 1
                  · intro w hSw
                    go_simp
                    try with_reducible rfl
                  try simp only [Act.put, List.getElem_toArray, List.getElem_cons_zero, List.getElem_cons_succ, List.setIfInBounds_toArray, List.set_cons_zero, List.set_cons_succ]
                  refine wpAnyH_ready (rs := [1, 3]) (by kernel_rfl) (by simp) ?_
                  refine AllReadyH.cons rfl (fun K hK => ?_) (AllReadyH.cons rfl (fun K hK => ?_) AllReadyH.nil)
                  · have q2 := (Kept.drew (Kept.refl (fun _ => False) wr)).cell c2 (fun f => f)
                    go_simp
                    refine hK.out _ _ trivial (fun hHeld => ?_)
                    clear hK K q2
                    try simp only [Act.put, List.getElem_toArray, List.getElem_cons_zero, List.getElem_cons_succ, List.setIfInBounds_toArray, List.set_cons_zero, List.set_cons_succ]
                    refine wpAnyH_ready (rs := [3]) (by kernel_rfl) (by simp) ?_
                    refine AllReadyH.cons rfl (fun K hK => ?_) AllReadyH.nil
                    go_simp
                    refine HFN.out.mono ?_
                    rintro e w5 ⟨⟨cv, rfl, hcv, hFok⟩, haf⟩
                    obtain ⟨co, cc, hcs⟩ := ownsRow_shape hcv
                    obtain ⟨nc, hnc⟩ : ∃ n, n = F.code.length := ⟨_, rfl⟩
                    rw [← hnc] at hcs
                    subst hcs
                    obtain ⟨fv', w7, hr7, hP7⟩ := HPK.out.next HDR.out HNK.out hcv hFok haf rfl HXS.out
                    obtain ⟨fo', fc', hfv'⟩ := ownsRow_shape hP7.2.own.row
                    rw [show (fs ++ [F]).length = k + 1 by rw [List.length_append, HFL.out]; rfl] at hfv'
                    subst hfv'
                    have HR7 := hid_of hr7
                    have HP7 := hid_of hP7
                    have c25 := haf_cell HPK.out haf
                    clear hcv hFok haf hnc hr7 hP7
                    rw [show F.cells (.slice co nc cc) = [.int .i64 F.a, .int .i64 F.l, .int .i64 F.r, .slice co nc cc] from rfl]
                    refine hK.out _ _ trivial (fun hHeld => ?_)
                    clear hK K
                    try simp only [Act.put, List.getElem_toArray, List.getElem_cons_zero, List.getElem_cons_succ, List.setIfInBounds_toArray, List.set_cons_zero, List.set_cons_succ]
                    refine wpAnyH_ready (rs := [4]) (by kernel_rfl) (by simp) ?_
                    refine AllReadyH.cons rfl (fun K hK => ?_) AllReadyH.nil
                    go_simp
                    refine hK.out _ _ trivial (fun hHeld => ?_)
                    clear hK K
                    try simp only [Act.put, List.getElem_toArray, List.getElem_cons_zero, List.getElem_cons_succ, List.setIfInBounds_toArray, List.set_cons_zero, List.set_cons_succ]
                    refine wpAnyH_ready (rs := [5]) (by kernel_rfl) (by simp) ?_
                    refine AllReadyH.cons rfl (fun K hK => ?_) AllReadyH.nil
                    refine stp_app rfl (.tmp 25) (.tmp 28) 23 23 rfl _ _ rfl rfl _ w7 HR7.out ?_
                    refine hK.out _ _ trivial (fun hHeld => ?_)
                    clear hK K
                    try simp only [Act.put, List.getElem_toArray, List.getElem_cons_zero, List.getElem_cons_succ, List.setIfInBounds_toArray, List.set_cons_zero, List.set_cons_succ]
                    refine wpAnyH_take (i := 6) (v := ?_) rfl (by kernel_rfl) (by kernel_rfl) (by kernel_rfl) (fun _ _ _ h => h) (Or.inl ⟨by rfl, ?_⟩) (by assumption) ?_
                    rotate_left 1
                    · intro w hSw
                      go_simp
                      try with_reducible rfl
                    try simp only [Act.put, List.getElem_toArray, List.getElem_cons_zero, List.getElem_cons_succ, List.setIfInBounds_toArray, List.set_cons_zero, List.set_cons_succ]
                    have c7 := cell_block _ gp 2 _ _ _ HP7.out.1
                    have cf7 := frozen_block _ gp 2 _ _ HP7.out.1
                    refine wpAnyH_ready (rs := [7]) (by kernel_rfl) (by simp) ?_
                    refine AllReadyH.cons rfl (fun K hK => ?_) AllReadyH.nil
                    go_simp
                    refine hK.out _ _ trivial (fun hHeld => ?_)
                    clear hK K c7 cf7
                    try simp only [Act.put, List.getElem_toArray, List.getElem_cons_zero, List.getElem_cons_succ, List.setIfInBounds_toArray, List.set_cons_zero, List.set_cons_succ]
                    refine wpAnyH_done (by kernel_rfl) ?_ _
                    have HP8 := hid_of HP7.out.2
                    clear HP7 HR7
                    go_wp2
                    go_roundw
                    case rel => exact ⟨k + 1, _, fs ++ [F], cvs ++ [.slice co nc cc], r5, by omega, by go_num, (by rw [List.length_append, HFL.out]; rfl), HP8⟩
                    case measure => simp [intOf]; omega
                  · go_simp
                    refine HFN.out.mono ?_
                    rintro e w5 ⟨⟨cv, rfl, hcv, hFok⟩, haf⟩
                    obtain ⟨co, cc, hcs⟩ := ownsRow_shape hcv
                    obtain ⟨nc, hnc⟩ : ∃ n, n = F.code.length := ⟨_, rfl⟩
                    rw [← hnc] at hcs
                    subst hcs
                    obtain ⟨fv', w7, hr7, hP7⟩ := HPK.out.next HDR.out HNK.out hcv hFok haf rfl HXS.out
                    obtain ⟨fo', fc', hfv'⟩ := ownsRow_shape hP7.2.own.row
                    rw [show (fs ++ [F]).length = k + 1 by rw [List.length_append, HFL.out]; rfl] at hfv'
                    subst hfv'
                    have HR7 := hid_of hr7
                    have HP7 := hid_of hP7
                    have c25 := haf_cell HPK.out haf
                    clear hcv hFok haf hnc hr7 hP7
                    rw [show F.cells (.slice co nc cc) = [.int .i64 F.a, .int .i64 F.l, .int .i64 F.r, .slice co nc cc] from rfl]
                    refine hK.out _ _ trivial (fun hHeld => ?_)
                    clear hK K
                    try simp only [Act.put, List.getElem_toArray, List.getElem_cons_zero, List.getElem_cons_succ, List.setIfInBounds_toArray, List.set_cons_zero, List.set_cons_succ]
                    refine wpAnyH_ready (rs := [1, 4]) (by kernel_rfl) (by simp) ?_
                    refine AllReadyH.cons rfl (fun K hK => ?_) (AllReadyH.cons rfl (fun K hK => ?_) AllReadyH.nil)
                    · have q2 := c25
                      go_simp
                      refine hK.out _ _ trivial (fun hHeld => ?_)
                      clear hK K q2
                      try simp only [Act.put, List.getElem_toArray, List.getElem_cons_zero, List.getElem_cons_succ, List.setIfInBounds_toArray, List.set_cons_zero, List.set_cons_succ]
                      refine wpAnyH_ready (rs := [4]) (by kernel_rfl) (by simp) ?_
                      refine AllReadyH.cons rfl (fun K hK => ?_) AllReadyH.nil
                      go_simp
                      refine hK.out _ _ trivial (fun hHeld => ?_)
                      clear hK K
                      try simp only [Act.put, List.getElem_toArray, List.getElem_cons_zero, List.getElem_cons_succ, List.setIfInBounds_toArray, List.set_cons_zero, List.set_cons_succ]
                      refine wpAnyH_ready (rs := [5]) (by kernel_rfl) (by simp) ?_
                      refine AllReadyH.cons rfl (fun K hK => ?_) AllReadyH.nil
                      refine stp_app rfl (.tmp 25) (.tmp 28) 23 23 rfl _ _ rfl rfl _ w7 HR7.out ?_
                      refine hK.out _ _ trivial (fun hHeld => ?_)
                      clear hK K
                      try simp only [Act.put, List.getElem_toArray, List.getElem_cons_zero, List.getElem_cons_succ, List.setIfInBounds_toArray, List.set_cons_zero, List.set_cons_succ]
                      refine wpAnyH_take (i := 6) (v := ?_) rfl (by kernel_rfl) (by kernel_rfl) (by kernel_rfl) (fun _ _ _ h => h) (Or.inl ⟨by rfl, ?_⟩) (by assumption) ?_
                      rotate_left 1
                      · intro w hSw
                        go_simp
                        try with_reducible rfl
                      try simp only [Act.put, List.getElem_toArray, List.getElem_cons_zero, List.getElem_cons_succ, List.setIfInBounds_toArray, List.set_cons_zero, List.set_cons_succ]
                      have c7 := cell_block _ gp 2 _ _ _ HP7.out.1
                      have cf7 := frozen_block _ gp 2 _ _ HP7.out.1
                      refine wpAnyH_ready (rs := [7]) (by kernel_rfl) (by simp) ?_
                      refine AllReadyH.cons rfl (fun K hK => ?_) AllReadyH.nil
                      go_simp
                      refine hK.out _ _ trivial (fun hHeld => ?_)
                      clear hK K c7 cf7
                      try simp only [Act.put, List.getElem_toArray, List.getElem_cons_zero, List.getElem_cons_succ, List.setIfInBounds_toArray, List.set_cons_zero, List.set_cons_succ]
                      refine wpAnyH_done (by kernel_rfl) ?_ _
                      have HP8 := hid_of HP7.out.2
                      clear HP7 HR7
                      go_wp2
                      go_roundw
                      case rel => exact ⟨k + 1, _, fs ++ [F], cvs ++ [.slice co nc cc], r5, by omega, by go_num, (by rw [List.length_append, HFL.out]; rfl), HP8⟩
                      case measure => simp [intOf]; omega
                    · go_simp
                      refine hK.out _ _ trivial (fun hHeld => ?_)
                      clear hK K
                      try simp only [Act.put, List.getElem_toArray, List.getElem_cons_zero, List.getElem_cons_succ, List.setIfInBounds_toArray, List.set_cons_zero, List.set_cons_succ]
                      refine wpAnyH_ready (rs := [1]) (by kernel_rfl) (by simp) ?_
                      refine AllReadyH.cons rfl (fun K hK => ?_) AllReadyH.nil
                      have q2 := ((Kept.refl (fun _ => False) w5).alloc (.cells #[.int .i64 F.a, .int .i64 F.l, .int .i64 F.r, .slice co nc cc] 44)).cell c25 (fun f => f)
                      go_simp
                      refine hK.out _ _ trivial (fun hHeld => ?_)
                      clear hK K q2
                      try simp only [Act.put, List.getElem_toArray, List.getElem_cons_zero, List.getElem_cons_succ, List.setIfInBounds_toArray, List.set_cons_zero, List.set_cons_succ]
                      refine wpAnyH_ready (rs := [5]) (by kernel_rfl) (by simp) ?_
                      refine AllReadyH.cons rfl (fun K hK => ?_) AllReadyH.nil
                      refine stp_app rfl (.tmp 25) (.tmp 28) 23 23 rfl _ _ rfl rfl _ w7 HR7.out ?_
                      refine hK.out _ _ trivial (fun hHeld => ?_)
                      clear hK K
                      try simp only [Act.put, List.getElem_toArray, List.getElem_cons_zero, List.getElem_cons_succ, List.setIfInBounds_toArray, List.set_cons_zero, List.set_cons_succ]
                      refine wpAnyH_take (i := 6) (v := ?_) rfl (by kernel_rfl) (by kernel_rfl) (by kernel_rfl) (fun _ _ _ h => h) (Or.inl ⟨by rfl, ?_⟩) (by assumption) ?_
                      rotate_left 1
                      · intro w hSw
                        go_simp
                        try with_reducible rfl
                      try simp only [Act.put, List.getElem_toArray, List.getElem_cons_zero, List.getElem_cons_succ, List.setIfInBounds_toArray, List.set_cons_zero, List.set_cons_succ]
                      have c7 := cell_block _ gp 2 _ _ _ HP7.out.1
                      have cf7 := frozen_block _ gp 2 _ _ HP7.out.1
                      refine wpAnyH_ready (rs := [7]) (by kernel_rfl) (by simp) ?_
                      refine AllReadyH.cons rfl (fun K hK => ?_) AllReadyH.nil
                      go_simp
                      refine hK.out _ _ trivial (fun hHeld => ?_)
                      clear hK K c7 cf7
                      try simp only [Act.put, List.getElem_toArray, List.getElem_cons_zero, List.getElem_cons_succ, List.setIfInBounds_toArray, List.set_cons_zero, List.set_cons_succ]
                      refine wpAnyH_done (by kernel_rfl) ?_ _
                      have HP8 := hid_of HP7.out.2
                      clear HP7 HR7
                      go_wp2
                      go_roundw
                      case rel => exact ⟨k + 1, _, fs ++ [F], cvs ++ [.slice co nc cc], r5, by omega, by go_num, (by rw [List.length_append, HFL.out]; rfl), HP8⟩
                      case measure => simp [intOf]; omega
              · have hnl : ¬ ((k : Int) < (nn : Int)) := by omega
                have hkn : k = nn := by omega
                have y0 : wr.cell? ⟨gp, 0, none⟩ = some (.int .i64 mem) := cell_block _ gp 0 _ _ _ HPK.out.blk
                have y1 : wr.cell? ⟨gp, 1, none⟩ = some (.slice dao nd dc) := cell_block _ gp 1 _ _ _ HPK.out.blk
                have y2 : wr.cell? ⟨gp, 2, none⟩ = some (.slice fo k fc) := cell_block _ gp 2 _ _ _ HPK.out.blk
                have hres := HPK.out.res
                have hkr := kept_row wr w.heap.size #[.int .i64 mem, .slice dao nd dc, .slice fo k fc]
                have HXR := hid_of (setRow_heap wr w.heap.size _ #[.int .i64 mem, .slice dao nd dc, .slice fo k fc] 25 (0, 0) hres)
                have HFIN : Hid (ProgP xs r g f w (.returned (.agg #[.int .i64 mem, .slice dao nd dc, .slice fo k fc])) (wr.setRow w.heap.size #[.int .i64 mem, .slice dao nd dc, .slice fo k fc])) := by
                  have hp : progD xs = .ok (⟨mem, d, fs⟩, rest) := by
                    rw [HPD2.out, HPK.out.pl, HFL.out, hkn, Nat.sub_self]
                    simp [fnsD, joinF]
                  unfold Hid ProgP Outs
                  rw [hp]
                  obtain ⟨va, c1, c2, c3⟩ := HPK.out.aft
                  have hoff := HPK.out.off
                  refine ⟨⟨.slice dao nd dc, .slice fo k fc, cvs, rfl, ⟨hkr.ownsRow HPK.out.dat (fun q hq e => by subst e; exact own_box HPK.out.dat hres (by decide) hq), HPK.out.own.box hres (by decide) (by decide) hkr⟩, ⟨⟨by show (-9223372036854775808 : Int) ≤ mem; omega, by show mem < 9223372036854775808; omega⟩, HB3.out.1, HPK.out.all, by show fs.length * 48 ≤ _; rw [HFL.out]; omega⟩⟩, ⟨va, c1.kept hkr (by omega), c2.kept hkr (by omega), c3.step hkr (fun i hi e => by omega)⟩⟩
                clear hkr HPK hkn
                go_wp2_with (refine wpList_store_row rfl 25 _ _ rfl w.heap.size #[.int .i64 mem, .slice dao nd dc, .slice fo k fc] rfl rfl 25 _ hres size25 rfl (three_one _ _ _ rfl rfl rfl) ?_)
                refine bodyPost_ret (v := .agg #[.int .i64 mem, .slice dao nd dc, .slice fo k fc]) ?_ rfl HFIN.out
                exact results_cell_row (by rfl) _ _ w.heap.size 25 _ (0, 0) _ (by rfl) HXR.out Try.underlying25 rfl size25
end Go.Proofs.Ytnjhnlohjhdcpab

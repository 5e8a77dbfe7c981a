/-
  The Reader's calls, where no fault is met.
-/
import Derived.Test.YtffabihenhejfaaRdf
namespace Go.Proofs.Ytffabihenhejfaa
open Go.RowKit
set_option linter.unusedVariables false

set_option maxRecDepth 100000 in
set_option maxHeartbeats 1000000 in
theorem rnum (r g : Nat) (v : Value) (u : Int) (rest : List Int) (w : World) (f : Int) (hr : Rd w r v true f) (hx : IsR w g v (Mth.form u ++ rest)) (hgr : g ≠ r) (h0 : 0 ≤ u) (h1 : u ≤ 9223372036854775807) :
    Calls Try.prog 41 #[.pointer (some ⟨r, 0, none⟩)] w fun e w' => e = .returned (.int .i64 u) ∧ After w w' r g f rest := by
  have hf := hid_of (rdform r g v u rest w f hr hx hgr h0 (by omega))
  clear hr hx
  go_enter Try.func41, Try.ntmps41
  go_wp2_with fail
  refine hf.out.mono ?_
  rintro e w1 ⟨rfl, ha⟩
  have HA := hid_of ha
  clear hf ha
  go_wp2
  go_ret
  exact ⟨rfl, HA.out⟩

theorem i64_not_int (a : Int) (h0 : 0 ≤ a) (ha : a < 9223372036854775808) : bits .xor .i64 (-1) a = -1 - a := by
  obtain ⟨n, rfl⟩ := Int.eq_ofNat_of_zero_le h0
  show IntKind.i64.wrap ((BitVec.ofInt 64 (-1) ^^^ BitVec.ofInt 64 (n : Int)).toNat : Int) = _
  have h1 : BitVec.ofInt 64 (-1) = BitVec.allOnes 64 := by decide
  rw [h1, BitVec.allOnes_xor, BitVec.toNat_not, ofInt_u64 n (by omega)]
  simp [IntKind.wrap, IntKind.bits, IntKind.signed]
  omega

set_option maxRecDepth 100000 in
set_option maxHeartbeats 1000000 in
theorem unfold_any (n : Int) (w : World) (hn : -9223372036854775808 ≤ n) (h1 : n < 9223372036854775808) :
    Calls Try.prog 63 #[.int .u64 (fold n)] w fun e w' => e = .returned (.int .i64 n) ∧ w' = w := by
  obtain ⟨l0, l1⟩ := fold_le n hn h1
  have key : fold n = if n < 0 then -2 * n - 1 else 2 * n := rfl
  have hand : bits .and .u64 (fold n) 1 = fold n % 2 := by
    obtain ⟨m, hm⟩ := Int.eq_ofNat_of_zero_le l0
    rw [hm]
    have := u64_and_nat m 1 (by omega) (by omega)
    rw [show ((1 : Nat) : Int) = 1 from rfl] at this
    rw [this, Nat.and_one_is_mod]
    omega
  by_cases h0 : n < 0
  · rw [if_pos h0] at key
    have hx : bits .xor .i64 (-1) (fold n / 2) = n := by rw [i64_not_int _ (by omega) (by omega)]; omega
    have hb : (bits .and .u64 (fold n) 1 == 1) = true := by rw [hand]; simp; omega
    have HX := hid_of hx
    clear hand key hx
    generalize fold n = u at *
    go_enter Try.func63, Try.ntmps63
    go_wp2
    go_ret
    exact ⟨congrArg (fun x => Ending.returned (Value.int .i64 x)) HX.out, rfl⟩
  · rw [if_neg h0] at key
    have hx : fold n / 2 = n := by omega
    have hb : (bits .and .u64 (fold n) 1 == 1) = false := by rw [hand]; simp; omega
    have HX := hid_of hx
    have hl2 : fold n / 2 < 9223372036854775808 := by omega
    clear hand key hx
    generalize fold n = u at *
    go_enter Try.func63, Try.ntmps63
    go_wp2
    go_ret
    exact ⟨congrArg (fun x => Ending.returned (Value.int .i64 x)) HX.out, rfl⟩

set_option maxRecDepth 100000 in
set_option maxHeartbeats 1000000 in
theorem rint (r g : Nat) (v : Value) (n : Int) (rest : List Int) (w : World) (f : Int) (hr : Rd w r v true f) (hx : IsR w g v (Mth.form (fold n) ++ rest)) (hgr : g ≠ r) (hn : -9223372036854775808 ≤ n) (h1 : n < 9223372036854775808) :
    Calls Try.prog 42 #[.pointer (some ⟨r, 0, none⟩)] w fun e w' => e = .returned (.int .i64 n) ∧ After w w' r g f rest := by
  obtain ⟨l0, l1⟩ := fold_le n hn h1
  have hf := hid_of (rdform r g v (fold n) rest w f hr hx hgr l0 l1)
  have hu := hid_of (fun w => unfold_any n w hn h1)
  clear hr hx
  generalize fold n = u at *
  go_enter Try.func42, Try.ntmps42
  go_wp2_with fail
  refine hf.out.mono ?_
  rintro e w1 ⟨rfl, ha⟩
  have HA := hid_of ha
  clear hf ha
  go_wp2_with fail
  refine (hu.out w1).mono ?_
  rintro e w2 ⟨rfl, rfl⟩
  go_wp2
  go_ret
  exact ⟨rfl, HA.out⟩

set_option maxRecDepth 100000 in
set_option maxHeartbeats 1000000 in
theorem rbool (r g : Nat) (v : Value) (x : Int) (rest : List Int) (w : World) (f : Int) (hr : Rd w r v true f) (hx : IsR w g v (x :: rest)) (hgr : g ≠ r) (h0 : 0 ≤ x) (h1 : x ≤ 1) :
    Calls Try.prog 43 #[.pointer (some ⟨r, 0, none⟩)] w fun e w' => e = .returned (.bool (x == 1)) ∧ After w w' r g f rest := by
  obtain ⟨q0, q1, q2, _, _, _, hl⟩ := hr.cells
  have ht := hid_of (take_ok r g 1 v (x :: rest) w f hr hx hgr (by simp))
  clear hr hx
  go_enter Try.func43, Try.ntmps43
  go_wp2_with fail
  refine ht.out.mono ?_
  rintro e w1 ⟨⟨v1, rfl, hb, hbg, _⟩, haf⟩
  obtain ⟨b, o, c, rfl, hc⟩ : ∃ b o c, v1 = .slice (some ⟨b, o, none⟩) 1 c ∧ w1.cell? ⟨b, o, none⟩ = some (.int .u8 x) := by
    rcases hb with ⟨h, _⟩ | ⟨b, o, c, rfl, hc⟩
    · cases h
    · exact ⟨b, o, c, rfl, hc 0 (by simp)⟩
  have HA := hid_of haf
  clear ht haf hb hbg
  go_wp2
  go_ret
  exact ⟨rfl, HA.out⟩

/-- bytes.Clone of what reads so: new memory, or nil of nil. -/
theorem clone_isB (v : Value) (xs : List Int) (w : World) (h : IsB w v xs) (hl : xs.length ≤ 140737488355328) (hsh : v.ownBlock = none → v = .slice none 0 0) :
    Calls Try.prog 52 #[v] w fun e w' => ∃ v', e = .returned v' ∧ w'.ownsRow w.heap.size 5 1 v' xs.length (xs.map (Value.int .u8)) ∧ Below w.heap.size w w' := by
  rcases h with ⟨rfl, ao, c, rfl⟩ | ⟨g, o, c, rfl, hc⟩
  · cases ao with
    | none =>
      have := hsh rfl
      cases this
      refine (clone_nil w).mono ?_
      rintro e w' ⟨rfl, rfl⟩
      exact ⟨_, rfl, World.ownsRow_nil _ _ _ _, Below.refl _ _⟩
    | some p =>
      refine (clone_any p 0 c [] w rfl (by omega) (fun i hi => absurd hi (by omega))).mono ?_
      rintro e w' ⟨v', rfl, h1, _, h2⟩
      exact ⟨v', rfl, h1, h2⟩
  · refine (clone_any ⟨g, o, none⟩ xs.length c xs w rfl hl (fun i hi => by rw [Addr.add_lit]; exact hc i hi)).mono ?_
    rintro e w' ⟨v', rfl, h1, _, h2⟩
    exact ⟨v', rfl, h1, h2⟩

theorem After.trans {w w1 w2 : World} {r g : Nat} {f f' : Int} {a b : List Int} (h : After w w1 r g f a) (h2 : After w1 w2 r g f' b) : After w w2 r g f' b := by
  obtain ⟨v1, _, _, k1⟩ := h
  obtain ⟨v2, q1, q2, k2⟩ := h2
  exact ⟨v2, q1, q2, k1.trans k2⟩

theorem After.new {w w1 w2 : World} {r g : Nat} {f : Int} {a : List Int} (h : After w w1 r g f a) (hr : r < w.heap.size) (hg : g < w.heap.size) (hb : Below w1.heap.size w1 w2) : After w w2 r g f a := by
  obtain ⟨v1, q1, q2, k1⟩ := h
  have hs := k1.size
  have hk := kept_of_below hb
  exact ⟨v1, q1.kept hk (by omega), q2.kept hk (by omega), k1.trans (hk.mono (fun k hk h => absurd h (by omega)))⟩

set_option maxRecDepth 100000 in
set_option maxHeartbeats 1000000 in
theorem rraw (r g n : Nat) (v : Value) (xs : List Int) (w : World) (f : Int) (hr : Rd w r v true f) (hx : IsR w g v xs) (hgr : g ≠ r) (hg : g < w.heap.size) (hn : n ≤ xs.length) (hl : n ≤ 140737488355328) :
    Calls Try.prog 47 #[.pointer (some ⟨r, 0, none⟩), .int .i64 n] w fun e w' => (∃ v', e = .returned v' ∧ w'.ownsRow w.heap.size 5 1 v' n ((xs.take n).map (Value.int .u8))) ∧ After w w' r g f (xs.drop n) := by
  obtain ⟨_, _, _, _, _, _, hlr⟩ := hr.cells
  have ht := hid_of (take_ok r g n v xs w f hr hx hgr hn)
  have hlt : (xs.take n).length = n := by rw [List.length_take]; omega
  have hnI : (0 : Int) ≤ (n : Int) := by omega
  have HLT := hid_of hlt
  clear hr hx hlt
  go_enter Try.func47, Try.ntmps47
  go_wp2_with fail
  refine ht.out.mono ?_
  rintro e w1 ⟨⟨v1, rfl, hb, hbg, hnn⟩, haf⟩
  have hcl := hid_of (clone_isB v1 (xs.take n) w1 hb (by rw [HLT.out]; exact hl) hnn)
  have HA := hid_of haf
  clear ht haf hb hbg hnn
  go_wp2_with fail
  refine hcl.out.mono ?_
  rintro e w2 ⟨v2, rfl, ho, hbl⟩
  have HA2 := hid_of (HA.out.new hlr hg hbl)
  have hs1 : w.heap.size ≤ w1.heap.size := by obtain ⟨_, _, _, k⟩ := HA.out; exact k.size
  have HO := hid_of (own_less ho hs1)
  clear hcl ho hbl HA
  go_wp2
  go_ret
  refine ⟨⟨v2, rfl, ?_⟩, HA2.out⟩
  have := HO.out
  rw [HLT.out] at this
  exact this

set_option maxRecDepth 100000 in
set_option maxHeartbeats 1000000 in
theorem rbytes (r g : Nat) (v : Value) (bs rest : List Int) (w : World) (f : Int) (hr : Rd w r v true f) (hx : IsR w g v (Mth.form bs.length ++ (bs ++ rest))) (hgr : g ≠ r) (hg : g < w.heap.size) (hl : bs.length ≤ 140737488355328) :
    Calls Try.prog 44 #[.pointer (some ⟨r, 0, none⟩)] w fun e w' => (∃ v', e = .returned v' ∧ w'.ownsRow w.heap.size 5 1 v' bs.length (bs.map (Value.int .u8))) ∧ After w w' r g f rest := by
  have hf := hid_of (rnum r g v bs.length (bs ++ rest) w f hr hx hgr (by omega) (by omega))
  clear hr hx
  go_enter Try.func44, Try.ntmps44
  go_wp2_with fail
  refine hf.out.mono ?_
  rintro e w1 ⟨rfl, haf⟩
  have haf0 := haf
  obtain ⟨v1, h1, h2, h3⟩ := haf0
  have hraw := rraw r g bs.length v1 (bs ++ rest) w1 f h1 h2 hgr (Nat.lt_of_lt_of_le hg h3.size) (by simp) hl
  rw [List.take_left' rfl, List.drop_left' rfl] at hraw
  have HR := hid_of hraw
  have HA := hid_of haf
  have HS := hid_of h3.size
  clear hf haf h1 h2 h3 hraw
  go_wp2_with fail
  refine HR.out.mono ?_
  rintro e w2 ⟨⟨v2, rfl, ho⟩, haf2⟩
  have HO := hid_of (own_less ho HS.out)
  have HA2 := hid_of (HA.out.trans haf2)
  clear HR ho haf2
  go_wp2
  go_ret
  exact ⟨⟨v2, rfl, HO.out⟩, HA2.out⟩

set_option maxRecDepth 100000 in
set_option maxHeartbeats 1000000 in
theorem rtext (r g : Nat) (v : Value) (bs rest : List Int) (w : World) (f : Int) (hr : Rd w r v true f) (hx : IsR w g v (Mth.form bs.length ++ (bs ++ rest))) (hgr : g ≠ r) (hl : bs.length ≤ 140737488355328) :
    Calls Try.prog 45 #[.pointer (some ⟨r, 0, none⟩)] w fun e w' => e = .returned (.string (str bs)) ∧ After w w' r g f rest := by
  have hf := hid_of (rnum r g v bs.length (bs ++ rest) w f hr hx hgr (by omega) (by omega))
  clear hr hx
  go_enter Try.func45, Try.ntmps45
  go_wp2_with fail
  refine hf.out.mono ?_
  rintro e w1 ⟨rfl, haf⟩
  have haf0 := haf
  obtain ⟨v1, h1, h2, h3⟩ := haf0
  have ht := take_ok r g bs.length v1 (bs ++ rest) w1 f h1 h2 hgr (by simp)
  rw [List.take_left' rfl, List.drop_left' rfl] at ht
  have HT := hid_of ht
  have HA := hid_of haf
  clear hf haf h1 h2 h3 ht
  go_wp2_with fail
  refine HT.out.mono ?_
  rintro e w2 ⟨⟨v2, rfl, hb, _, _⟩, haf2⟩
  have hcv := conv_str w2 v2 bs hb
  have HA2 := hid_of (HA.out.trans haf2)
  obtain ⟨ao, c, rfl⟩ := hb.shape
  clear HT haf2 hb
  go_wp2
  go_ret
  exact ⟨rfl, HA2.out⟩

set_option maxRecDepth 100000 in
set_option maxHeartbeats 1000000 in
theorem rleft (r g : Nat) (v : Value) (xs : List Int) (w : World) (live : Bool) (f : Int) (hr : Rd w r v live f) (hx : IsR w g v xs) :
    Calls Try.prog 49 #[.pointer (some ⟨r, 0, none⟩)] w fun e w' => e = .returned (.int .i64 xs.length) ∧ w' = w := by
  obtain ⟨q0, q1, q2, _, _, _, hl⟩ := hr.cells
  obtain ⟨ao, c, rfl⟩ := hx.shape
  clear hr hx
  go_enter Try.func49, Try.ntmps49
  go_wp2
  go_ret
  exact ⟨rfl, rfl⟩
end Go.Proofs.Ytffabihenhejfaa

/-
  path.goesThrough at texts, by contract: how the search goes.
-/
import Derived.Test.YthloacakomahaaaRless
import Derived.WalkMore
namespace Go.Proofs.Ythloacakomahaaa
open Go.RowKit
set_option linter.unusedVariables false
set_option linter.unusedSimpArgs false

/-- How the search goes: m, k: where it is; a, f: where it goes on from. -/
inductive Runs (lo : Nat → Bool) (ta : Nat → Nat → Bool) (M R : Nat) : Nat → Nat → Nat → Nat → Bool → Prop
  | stop (m k a f : Nat) : ¬ m < M → ¬ k < R → Runs lo ta M R m k a f true
  | loose (m k a f : Nat) (b : Bool) : m < M → lo m = true → Runs lo ta M R (m + 1) k (m + 1) k b → Runs lo ta M R m k a f b
  | takes (m k a f : Nat) (b : Bool) : m < M → k < R → lo m = false → ta m k = true → Runs lo ta M R (m + 1) (k + 1) a f b → Runs lo ta M R m k a f b
  | again (m k a f : Nat) (b : Bool) : (m < M ∨ k < R) → (m < M → lo m = false) → (m < M → k < R → ta m k = false) → f < R → Runs lo ta M R a (f + 1) a (f + 1) b → Runs lo ta M R m k a f b
  | fail (m k a f : Nat) : (m < M ∨ k < R) → (m < M → lo m = false) → (m < M → k < R → ta m k = false) → ¬ f < R → Runs lo ta M R m k a f false

/-- The same, as a function, with so many steps at most. -/
def runG (lo : Nat → Bool) (ta : Nat → Nat → Bool) (M R : Nat) : Nat → Nat → Nat → Nat → Nat → Option Bool
  | 0, _, _, _, _ => none
  | n + 1, m, k, a, f =>
    if ¬ m < M ∧ ¬ k < R then some true
    else if m < M ∧ lo m = true then runG lo ta M R n (m + 1) k (m + 1) k
    else if m < M ∧ k < R ∧ ta m k = true then runG lo ta M R n (m + 1) (k + 1) a f
    else if f < R then runG lo ta M R n a (f + 1) a (f + 1)
    else some false

theorem runs_fun {lo : Nat → Bool} {ta : Nat → Nat → Bool} {M R : Nat} {m k a f : Nat} {b : Bool} (h : Runs lo ta M R m k a f b) : ∀ (n : Nat) (c : Bool), runG lo ta M R n m k a f = some c → b = c := by
  induction h with
  | stop m k a f h1 h2 =>
    intro n c h
    cases n with
    | zero => cases h
    | succ n =>
      rw [runG, if_pos ⟨h1, h2⟩] at h
      exact Option.some.inj h
  | loose m k a f b h1 h2 _ ih =>
    intro n c h
    cases n with
    | zero => cases h
    | succ n =>
      rw [runG, if_neg (fun e => e.1 h1), if_pos ⟨h1, h2⟩] at h
      exact ih n c h
  | takes m k a f b h1 h2 h3 h4 _ ih =>
    intro n c h
    cases n with
    | zero => cases h
    | succ n =>
      rw [runG, if_neg (fun e => e.1 h1), if_neg (fun e => by rw [h3] at e; cases e.2), if_pos ⟨h1, h2, h4⟩] at h
      exact ih n c h
  | again m k a f b h1 h2 h3 h4 _ ih =>
    intro n c h
    cases n with
    | zero => cases h
    | succ n =>
      rw [runG, if_neg (fun e => by omega), if_neg (fun e => by rw [h2 e.1] at e; cases e.2), if_neg (fun e => by rw [h3 e.1 e.2.1] at e; cases e.2.2), if_pos h4] at h
      exact ih n c h
  | fail m k a f h1 h2 h3 h4 =>
    intro n c h
    cases n with
    | zero => cases h
    | succ n =>
      rw [runG, if_neg (fun e => by omega), if_neg (fun e => by rw [h2 e.1] at e; cases e.2), if_neg (fun e => by rw [h3 e.1 e.2.1] at e; cases e.2.2), if_neg h4] at h
      exact Option.some.inj h

/-- How much is left to do. -/
def leftG (M R m a f : Nat) : Nat := (M - a) * ((R + 1) * (M + 1)) + (R - f) * (M + 1) + (M - m)

theorem left_loose {M R m k a f : Nat} (h1 : m < M) (h2 : a ≤ m) : leftG M R (m + 1) (m + 1) k < leftG M R m a f := by
  have e1 : (M - (m + 1) + 1) * ((R + 1) * (M + 1)) ≤ (M - a) * ((R + 1) * (M + 1)) := Nat.mul_le_mul_right _ (by omega)
  have e2 : (R - k) * (M + 1) ≤ R * (M + 1) := Nat.mul_le_mul_right _ (by omega)
  rw [Nat.succ_mul] at e1
  have e3 : (R + 1) * (M + 1) = R * (M + 1) + (M + 1) := Nat.succ_mul _ _
  unfold leftG
  omega
theorem left_takes {M R m a f : Nat} (h1 : m < M) : leftG M R (m + 1) a f < leftG M R m a f := by
  unfold leftG
  omega
theorem left_again {M R m a f : Nat} (h1 : f < R) (h2 : a ≤ M) : leftG M R a a (f + 1) < leftG M R m a f := by
  have e1 : (R - (f + 1) + 1) * (M + 1) = (R - f) * (M + 1) := by congr 1; omega
  rw [Nat.succ_mul] at e1
  unfold leftG
  omega

def loS (ms : List (List UInt8)) (i : Nat) : Bool := ms.getD i [] == [42]
def taS (ms rs : List (List UInt8)) (i k : Nat) : Bool := ms.getD i [] == [63] || ms.getD i [] == rs.getD k []

theorem piece_any (x : List UInt8) (w : World) : Calls Try.prog 61 #[.string ⟨x.toArray⟩] w fun e w' => e = .returned (.bool (x == [42])) ∧ w' = w := by
  go_enter Try.func61, Try.ntmps61
  go_wp2
  go_ret
  exact ⟨rfl, rfl⟩
theorem takes_any (x y : List UInt8) (w : World) : Calls Try.prog 62 #[.string ⟨x.toArray⟩, .string ⟨y.toArray⟩] w fun e w' => e = .returned (.bool (x == [63] || x == y)) ∧ w' = w := by
  cases h : x == [63]
  · go_enter Try.func62, Try.ntmps62
    go_wp2
    go_ret
    exact ⟨rfl, rfl⟩
  · go_enter Try.func62, Try.ntmps62
    go_wp2
    go_ret
    exact ⟨rfl, rfl⟩

theorem body_end {R : Ending → World → Prop} {a : Act} {w : World} (hd : a.defers = []) (h : R (.returned (a.tmps.getD 8 undef)) w) : bodyPost Try.prog Try.f60 R .ret a w :=
  bodyPost_ret (results_tmp rfl _ _ _) hd h
theorem getD_some {l : List (List UInt8)} {j : Nat} (h : j < l.length) : l[j]? = some (l.getD j []) := by
  rw [List.getD, List.getElem?_eq_getElem h]
  rfl

set_option maxRecDepth 100000 in
set_option maxHeartbeats 2000000 in
theorem goes_any (ms rs : List (List UInt8)) (v1 v2 : Value) (B1 B2 : Nat) (w : World) (ho1 : w.ownsRow B1 9 1 v1 ms.length (texts ms)) (ho2 : w.ownsRow B2 9 1 v2 rs.length (texts rs)) (hml : ms.length ≤ 1099511627776) (hmm : rs.length ≤ 1099511627776) :
    Calls Try.prog 60 #[v1, v2, .func (.func 61) #[] #[], .func (.func 62) #[] #[]] w fun e w' => ∃ b, e = .returned (.bool b) ∧ Runs (loS ms) (taS ms rs) ms.length rs.length 0 0 0 rs.length b ∧ Kept (fun _ => False) w w' := by
  obtain ⟨s1, c1, rfl, hc1, hm1, hx1⟩ := own_slice ho1
  obtain ⟨s2, c2, rfl, hc2, hm2, hx2⟩ := own_slice ho2
  have HX1 := hid_of hx1
  have HX2 := hid_of hx2
  clear ho1 ho2 hx1 hx2
  clear hc1 hm1 hc2 hm2
  go_enter Try.func60, Try.ntmps60
  go_wp2
  refine wp_scope_straight ?_
  go_wp2
  refine wp_label ?_
  go_wp2
  go_loopw [9, 10, 11, 12] (fun m k a f wr => ∃ (m' k' a' f' q : Nat), m = .int .i64 m' ∧ k = .int .i64 k' ∧ a = .int .i64 a' ∧ f = .int .i64 f' ∧ wr = w.drewN q ∧ m' ≤ ms.length ∧ k' ≤ rs.length ∧ a' ≤ m' ∧ f' ≤ rs.length ∧ ∀ b, Runs (loS ms) (taS ms rs) ms.length rs.length m' k' a' f' b → Runs (loS ms) (taS ms rs) ms.length rs.length 0 0 0 rs.length b) (fun m _ a f _ => leftG ms.length rs.length (intOf m).toNat (intOf a).toNat (intOf f).toNat)
  case atStart => exact ⟨0, 0, 0, rs.length, 0, rfl, rfl, rfl, rfl, rfl, by omega, by omega, by omega, by omega, fun _ h => h⟩
  case round =>
    obtain ⟨m, k, a, f, q, rfl, rfl, rfl, rfl, rfl, hm, hk, ha, hf, hrun⟩ := hrel
    have HU := hid_of hrun
    clear hrun
    have hz1 : (0 : Int) ≤ (m : Int) := by omega
    have hz2 : (0 : Int) ≤ (k : Int) := by omega
    by_cases h1 : m < ms.length
    · obtain ⟨x, hx⟩ : ∃ x, ms.getD m [] = x := ⟨_, rfl⟩
      have ex := getD_some h1
      rw [hx] at ex
      obtain ⟨g1, rfl, _, _, hg1⟩ := HX1.out m _ (texts_get _ _ _ ex)
      have HL : Hid (loS ms m = (x == [42])) := by show _ = _; rw [loS, hx]
      have HP := hid_of (piece_any x)
      cases hlo : x == [42]
      · rw [hlo] at HL HP
        by_cases h2 : k < rs.length
        · obtain ⟨y, hy⟩ : ∃ y, rs.getD k [] = y := ⟨_, rfl⟩
          have ey := getD_some h2
          rw [hy] at ey
          obtain ⟨g2, rfl, _, _, hg2⟩ := HX2.out k _ (texts_get _ _ _ ey)
          have HT : Hid (taS ms rs m k = (x == [63] || x == y)) := by show _ = _; rw [taS, hx, hy]
          have HQ := hid_of (takes_any x y)
          clear hx hy ex ey
          cases hta : (x == [63] || x == y)
          · rw [hta] at HT HQ
            by_cases h3 : f < rs.length
            · go_wp2_with fail
              refine (HP.out _).mono ?_
              rintro e w1 ⟨rfl, rfl⟩
              go_wp2_with fail
              go_quiet (first | (go_at_call 62; exact (HQ.out _).mono (fun _ _ h => ⟨h.1, _, h.2⟩)))
              go_wp2
              refine ⟨⟨a, f + 1, a, f + 1, _, rfl, by go_num, rfl, by go_num, rfl, by omega, by omega, by omega, by omega, fun b h => HU.out b (.again m k a f b (.inl h1) (fun _ => HL.out) (fun _ _ => HT.out) h3 h)⟩, ?_⟩
              have e1 : (intOf (.int .i64 ((f : Int) + 1))).toNat = f + 1 := by simp [intOf]
              rw [e1]
              exact left_again h3 (Nat.le_trans ha hm)
            · go_wp2_with fail
              refine (HP.out _).mono ?_
              rintro e w1 ⟨rfl, rfl⟩
              go_wp2_with fail
              go_quiet (first | (go_at_call 62; exact (HQ.out _).mono (fun _ _ h => ⟨h.1, _, h.2⟩)))
              go_wp2
              rw [Exit.noGoto_ret]
              refine body_end (R := fun e w' => ∃ b, e = Ending.returned (Value.bool b) ∧ Runs (loS ms) (taS ms rs) ms.length rs.length 0 0 0 rs.length b ∧ Kept (fun x => False) w w') rfl ?_
              exact ⟨false, by first | rfl | (refine congrArg Ending.returned ?_; simp; omega), HU.out false (.fail m k a f (.inl h1) (fun _ => HL.out) (fun _ _ => HT.out) h3), by first | exact kept_drewN (Kept.refl _ w) _ | exact kept_drewN (kept_drewN (Kept.refl _ w) _) _ | exact kept_drewN (kept_drewN (kept_drewN (Kept.refl _ w) _) _) _⟩
          · rw [hta] at HT HQ
            go_wp2_with fail
            refine (HP.out _).mono ?_
            rintro e w1 ⟨rfl, rfl⟩
            go_wp2_with fail
            go_quiet (first | (go_at_call 62; exact (HQ.out _).mono (fun _ _ h => ⟨h.1, _, h.2⟩)))
            go_wp2
            refine ⟨⟨m + 1, k + 1, a, f, _, by go_num, by go_num, rfl, rfl, rfl, by omega, by omega, by omega, by omega, fun b h => HU.out b (.takes m k a f b h1 h2 HL.out HT.out h)⟩, ?_⟩
            have e1 : (intOf (.int .i64 ((m : Int) + 1))).toNat = m + 1 := by simp [intOf]
            rw [e1]
            exact left_takes h1
        · by_cases h3 : f < rs.length
          · go_wp2_with fail
            refine (HP.out _).mono ?_
            rintro e w1 ⟨rfl, rfl⟩
            go_wp2_with fail
            go_quiet (fail)
            go_wp2
            refine ⟨⟨a, f + 1, a, f + 1, _, rfl, by go_num, rfl, by go_num, rfl, by omega, by omega, by omega, by omega, fun b h => HU.out b (.again m k a f b (.inl h1) (fun _ => HL.out) (fun _ h => absurd h h2) h3 h)⟩, ?_⟩
            have e1 : (intOf (.int .i64 ((f : Int) + 1))).toNat = f + 1 := by simp [intOf]
            rw [e1]
            exact left_again h3 (Nat.le_trans ha hm)
          · go_wp2_with fail
            refine (HP.out _).mono ?_
            rintro e w1 ⟨rfl, rfl⟩
            go_wp2_with fail
            go_quiet (fail)
            go_wp2
            rw [Exit.noGoto_ret]
            refine body_end (R := fun e w' => ∃ b, e = Ending.returned (Value.bool b) ∧ Runs (loS ms) (taS ms rs) ms.length rs.length 0 0 0 rs.length b ∧ Kept (fun x => False) w w') rfl ?_
            exact ⟨false, by first | rfl | (refine congrArg Ending.returned ?_; simp; omega), HU.out false (.fail m k a f (.inl h1) (fun _ => HL.out) (fun _ h => absurd h h2) h3), by first | exact kept_drewN (Kept.refl _ w) _ | exact kept_drewN (kept_drewN (Kept.refl _ w) _) _ | exact kept_drewN (kept_drewN (kept_drewN (Kept.refl _ w) _) _) _⟩
      · rw [hlo] at HL HP
        go_wp2_with fail
        refine (HP.out _).mono ?_
        rintro e w1 ⟨rfl, rfl⟩
        go_wp2
        refine ⟨⟨m + 1, k, m + 1, k, _, by go_num, rfl, by go_num, rfl, rfl, by omega, by omega, by omega, by omega, fun b h => HU.out b (.loose m k a f b h1 HL.out h)⟩, ?_⟩
        have e1 : (intOf (.int .i64 ((m : Int) + 1))).toNat = m + 1 := by simp [intOf]
        rw [e1]
        exact left_loose h1 ha
    · by_cases h2 : k < rs.length
      · by_cases h3 : f < rs.length
        · go_wp2
          go_quiet (fail)
          go_wp2
          refine ⟨⟨a, f + 1, a, f + 1, _, rfl, by go_num, rfl, by go_num, rfl, by omega, by omega, by omega, by omega, fun b h => HU.out b (.again m k a f b (.inr h2) (fun h => absurd h h1) (fun h _ => absurd h h1) h3 h)⟩, ?_⟩
          have e1 : (intOf (.int .i64 ((f : Int) + 1))).toNat = f + 1 := by simp [intOf]
          rw [e1]
          exact left_again h3 (Nat.le_trans ha hm)
        · go_wp2
          go_quiet (fail)
          go_wp2
          rw [Exit.noGoto_ret]
          refine body_end (R := fun e w' => ∃ b, e = Ending.returned (Value.bool b) ∧ Runs (loS ms) (taS ms rs) ms.length rs.length 0 0 0 rs.length b ∧ Kept (fun x => False) w w') rfl ?_
          exact ⟨false, by first | rfl | (refine congrArg Ending.returned ?_; simp; omega), HU.out false (.fail m k a f (.inr h2) (fun h => absurd h h1) (fun h _ => absurd h h1) h3), by first | exact kept_drewN (Kept.refl _ w) _ | exact kept_drewN (kept_drewN (Kept.refl _ w) _) _ | exact kept_drewN (kept_drewN (kept_drewN (Kept.refl _ w) _) _) _⟩
      · have e1 : m = ms.length := by omega
        have e2 : k = rs.length := by omega
        have e3 : ((m : Int) == (ms.length : Int)) = true := by rw [e1]; simp
        have e4 : ((k : Int) == (rs.length : Int)) = true := by rw [e2]; simp
        go_wp2
        rw [Exit.noGoto_ret]
        refine body_end (R := fun e w' => ∃ b, e = Ending.returned (Value.bool b) ∧ Runs (loS ms) (taS ms rs) ms.length rs.length 0 0 0 rs.length b ∧ Kept (fun x => False) w w') rfl ?_
        exact ⟨true, by first | rfl | (refine congrArg Ending.returned ?_; simp; omega), HU.out true (.stop m k a f h1 h2), kept_drewN (Kept.refl _ w) _⟩
end Go.Proofs.Ythloacakomahaaa

/-
  The document's Done over items, by contract.
-/
import Derived.Test.YtffabihenhejfaaRput
namespace Go.Proofs.Ytffabihenhejfaa
open Go.RowKit
set_option linter.unusedVariables false

/-- An item as it lies in memory, and what its bytes read as. -/
structure ItV where
  k : Int
  n : Int
  bv : Value
  xs : List Int

def ItV.cells (x : ItV) : List Value := [.int .i64 x.k, .int .i64 x.n, x.bv]

/-- An item that may be put. -/
def ItOk (w : World) (x : ItV) : Prop :=
  1 ≤ x.k ∧ x.k ≤ 6 ∧ -9223372036854775808 ≤ x.n ∧ x.n < 9223372036854775808 ∧ IsB w x.bv x.xs ∧ (∀ y ∈ x.xs, 0 ≤ y ∧ y ≤ 255) ∧ x.xs.length ≤ 65536

def ItV.default : ItV := ⟨0, 0, .slice none 0 0, []⟩

/-- Items at a block: each has its three cells. -/
def ItemsAt (w : World) (g : Nat) (its : List ItV) : Prop :=
  ∀ i, i < its.length → w.cell? ⟨g, i * 3, none⟩ = some (.int .i64 (its.getD i ItV.default).k) ∧ w.cell? ⟨g, i * 3 + 1, none⟩ = some (.int .i64 (its.getD i ItV.default).n) ∧ w.cell? ⟨g, i * 3 + 2, none⟩ = some (its.getD i ItV.default).bv

/-- What all that was put makes. -/
def run (its : List ItV) : St := its.foldl (fun s x => s.item x.k x.n x.xs) (.ok [])

theorem fold_err (its : List ItV) (e : Int) : its.foldl (fun (s : St) x => s.item x.k x.n x.xs) (.error e) = .error e := by
  induction its with
  | nil => rfl
  | cons x its ih =>
    rw [List.foldl_cons]
    have : St.item (.error e) x.k x.n x.xs = .error e := by
      unfold St.item St.num
      repeat' split
      all_goals rfl
    rw [this, ih]

theorem run_snoc (its : List ItV) (x : ItV) : run (its ++ [x]) = (run its).item x.k x.n x.xs := by
  simp [run, List.foldl_append]

theorem take_snoc (its : List ItV) (i : Nat) (h : i < its.length) : its.take (i + 1) = its.take i ++ [its.getD i ItV.default] := by
  rw [List.take_succ_eq_append_getElem h]
  simp [List.getD, List.getElem?_eq_getElem h]

theorem run_take (its : List ItV) (i : Nat) (h : i < its.length) : run (its.take (i + 1)) = (run (its.take i)).item (its.getD i ItV.default).k (its.getD i ItV.default).n (its.getD i ItV.default).xs := by
  rw [take_snoc its i h, run_snoc]

theorem run_stops (its : List ItV) (i : Nat) (e : Int) (h : run (its.take i) = .error e) : run its = .error e := by
  have : run its = (its.drop i).foldl (fun (s : St) x => s.item x.k x.n x.xs) (run (its.take i)) := by
    unfold run
    rw [← List.foldl_append, List.take_append_drop]
  rw [this, h, fold_err]

theorem item_bytes (s : St) (k n : Int) (xs : List Int) (h1 : 1 ≤ k) (h2 : k ≤ 6) : s.item k n xs = if k = 1 ∧ n < 0 then s.fail 1 else s.put (itemBytes k n xs) := by
  unfold St.item itemBytes St.num
  by_cases e1 : k = 1
  · subst e1
    by_cases e2 : n < 0
    · simp [e2]
    · simp [e2]
  · simp only [e1, if_false, false_and]
    repeat' split
    all_goals rfl

theorem item_form (s : St) (k n : Int) (xs : List Int) : (∃ m, s.item k n xs = s.put m) ∨ s.item k n xs = s.fail 1 := by
  unfold St.item St.num
  by_cases e1 : k = 1
  · by_cases e2 : n < 0
    · right
      rw [if_pos e1, if_pos e2]
    · left
      exact ⟨_, by rw [if_pos e1, if_neg e2]⟩
  · left
    rw [if_neg e1]
    (repeat' split) <;> exact ⟨_, rfl⟩

theorem run_ok_len (its : List ItV) (l : List Int) : run its = .ok l → l.length ≤ 4194304 := by
  suffices H : ∀ (its : List ItV) (s : St), (∀ l, s = .ok l → l.length ≤ 4194304) → ∀ l, its.foldl (fun (s : St) x => s.item x.k x.n x.xs) s = .ok l → l.length ≤ 4194304 from
    H its (.ok []) (fun l h => by cases h; simp) l
  intro its
  induction its with
  | nil => intro s hs l h; exact hs l h
  | cons x its ih =>
    intro s hs l h
    refine ih _ ?_ l h
    intro l' h'
    have hput : ∀ m l', s.put m = .ok l' → l'.length ≤ 4194304 := by
      intro m l' h
      cases s with
      | error e => cases h
      | ok l0 =>
        simp only [St.put] at h
        split at h
        · cases h; simpa using ‹_›
        · cases h
    change s.item x.k x.n x.xs = .ok l' at h'
    rcases item_form s x.k x.n x.xs with ⟨m, e⟩ | e
    · rw [e] at h'
      exact hput m l' h'
    · rw [e] at h'
      cases s <;> cases h'

theorem itemBytes_len (k n : Int) (xs : List Int) (h : xs.length ≤ 65536) (h1 : -9223372036854775808 ≤ n) (h2 : n < 9223372036854775808) : (itemBytes k n xs).length ≤ 70000 := by
  have f1 := (Mth.form_length n (by omega)).2
  have f2 := (Mth.form_length (fold n) (fold_le n h1 h2).2).2
  have f3 := (Mth.form_length xs.length (by omega)).2
  unfold itemBytes
  (repeat' split) <;> first | omega | (rw [List.length_append]; omega) | (rw [List.length_cons, List.length_nil]; omega)

set_option maxRecDepth 100000 in
set_option maxHeartbeats 4000000 in
theorem rdone_any (g c : Nat) (its : List ItV) (N : Nat) (w : World) (hN : its.length = N) (hm : N ≤ 1000000) (hit : ItemsAt w g its) (hok : ∀ i, i < N → ItOk w (its.getD i ItV.default)) :
    Calls Try.prog 35 #[.slice (some ⟨g, 0, none⟩) N c] w fun e w' => ∃ v', e = .returned (.tuple #[v', .int .i64 (run its).err]) ∧ w'.ownsRow w.heap.size 5 1 v' (run its).bytes.length ((run its).bytes.map (Value.int .u8)) ∧ Kept (fun _ => False) w w' := by
  obtain ⟨i0, hi, hz0, hz1, hz2⟩ := info_parts Try.info5
  have HN := hid_of hN
  have HIT := hid_of hit
  have HOK := hid_of hok
  clear hN hit hok
  go_enter Try.func35, Try.ntmps35
  go_wp2
  go_loopw [4, 5] (fun v i wr => ∃ (k : Nat) (l : List Int), k ≤ N ∧ i = .int .i64 k ∧ run (its.take k) = .ok l ∧ wr.ownsRow w.heap.size 5 1 v l.length (l.map (Value.int .u8)) ∧ Kept (fun _ => False) w wr) (fun _ i _ => N - (intOf i).toNat)
  case atStart => exact ⟨0, [], Nat.zero_le _, rfl, rfl, World.ownsRow_nil _ _ _ _, Kept.refl _ _⟩
  case round =>
    obtain ⟨k, l, hk, rfl, hrun, hown, hkept⟩ := hrel
    by_cases hlt : k < N
    · obtain ⟨q0, q1, q2⟩ := HIT.out k (by rw [HN.out]; exact hlt)
      obtain ⟨o1, o2, o3, o4, o5, o6, o7⟩ := HOK.out k hlt
      have hstep := run_take its k (by rw [HN.out]; exact hlt)
      generalize its.getD k ItV.default = x at *
      obtain ⟨xk, xn, bv, xs⟩ := x
      dsimp only at q0 q1 q2 o1 o2 o3 o4 o5 o6 o7 hstep
      have r0 := hkept.cell q0 (fun f => f)
      have r1 := hkept.cell q1 (fun f => f)
      have r2 := hkept.cell q2 (fun f => f)
      have hib := item_bytes (.ok l) xk xn xs o1 o2
      rw [hrun, hib] at hstep
      have HOWN := hid_of hown
      have HKEPT := hid_of hkept
      have HSTEP := hid_of hstep
      obtain ⟨ao, bc, rfl⟩ := o5.shape
      have hll := run_ok_len _ l hrun
      have hll' : (l.length : Int) ≤ 4194304 := by omega
      clear q0 q1 q2 hrun hib hown hkept hstep HIT HOK o6
      obtain ⟨uo, uc, rfl⟩ := ownsRow_shape HOWN.out
      have key : (xk = 1 ∧ xn < 0) ∨ (xk = 1 ∧ 0 ≤ xn) ∨ ((xk == 1) = false ∧ xk ≠ 1) := by simp; omega
      rcases key with ⟨rfl, hneg⟩ | ⟨rfl, hnn⟩ | ⟨hkb, hkn⟩
      · rw [if_pos ⟨rfl, hneg⟩] at HSTEP
        have e := run_stops its (k + 1) 1 HSTEP.out
        have HE := hid_of e
        have HKK := HKEPT
        clear HSTEP HOWN HKEPT e o5
        go_wp2
        go_ret2
        rw [HE.out]
        exact ⟨_, rfl, World.ownsRow_nil _ _ _ _, HKK.out⟩
      · rw [if_neg (by omega)] at HSTEP
        have hbl := itemBytes_len 1 xn xs o7 o3 o4
        have hp := hid_of (rput_any 1 xn (.slice ao xs.length bc) xs wr o1 o2 o3 o4 (fun _ => hnn) (o5.kept HKEPT.out (fun _ _ f => f)) o7)
        clear o5
        generalize itemBytes 1 xn xs = m at *
        go_wp2_with fail
        refine hp.out.mono ?_
        rintro e w1 ⟨v1, rfl, ho1, hk1⟩
        have hown1 := hk1.ownsRow HOWN.out (fun _ _ f => f)
        have hsw := Nat.le_trans HKEPT.out.size hk1.size
        obtain ⟨vo, vc, rfl⟩ := ownsRow_shape ho1
        have hks : Kept (fun _ => False) w w1 := HKEPT.out.trans hk1
        by_cases hf : l.length + m.length ≤ 4194304
        · have hfI : (l.length : Int) + (m.length : Int) ≤ 4194304 := by omega
          obtain ⟨v2, w2, hr, h2, h3⟩ := app_any w1 _ _ _ l 25 _ m hown1 (isB_own ho1) hsw (by omega)
          rw [put_ok l m hf] at HSTEP
          have HR := hid_of hr
          have H2 := hid_of h2
          have H3 : Hid (Kept (fun _ => False) w w2) := hks.grown h3 (fun g hg => .inl (HOWN.out.lt g hg).1)
          have HLE : Hid ((l ++ m).length = l.length + m.length) := List.length_append
          clear hp ho1 hk1 hown1 hr h2 h3 HOWN HKEPT hks
          go_wp2_with (at_builtin; refine wp_app rfl (.tmp 38) (.tmp 39) 25 25 rfl _ _ rfl rfl v2 w2 HR.out ?_)
          go_roundw
          case rel =>
            refine ⟨k + 1, l ++ m, by omega, by go_num, HSTEP.out, ?_, H3.out⟩
            rw [HLE.out]
            exact H2.out
          case measure => simp [intOf]; omega
        · have hfI : 4194304 < (l.length : Int) + (m.length : Int) := by omega
          have hml : (m.length : Int) ≤ 70000 := by omega
          rw [put_full l m (by omega)] at HSTEP
          have e := run_stops its (k + 1) 2 HSTEP.out
          have HE := hid_of e
          have HKS := hid_of hks
          clear hp ho1 hk1 hown1 HOWN HKEPT hks HSTEP e
          go_wp2
          go_ret2
          rw [HE.out]
          exact ⟨_, rfl, World.ownsRow_nil _ _ _ _, HKS.out⟩
      · rw [if_neg (by omega)] at HSTEP
        have hbl := itemBytes_len xk xn xs o7 o3 o4
        have hp := hid_of (rput_any xk xn (.slice ao xs.length bc) xs wr o1 o2 o3 o4 (fun h => absurd h hkn) (o5.kept HKEPT.out (fun _ _ f => f)) o7)
        clear o5
        generalize itemBytes xk xn xs = m at *
        go_wp2_with fail
        refine hp.out.mono ?_
        rintro e w1 ⟨v1, rfl, ho1, hk1⟩
        have hown1 := hk1.ownsRow HOWN.out (fun _ _ f => f)
        have hsw := Nat.le_trans HKEPT.out.size hk1.size
        obtain ⟨vo, vc, rfl⟩ := ownsRow_shape ho1
        have hks : Kept (fun _ => False) w w1 := HKEPT.out.trans hk1
        by_cases hf : l.length + m.length ≤ 4194304
        · have hfI : (l.length : Int) + (m.length : Int) ≤ 4194304 := by omega
          obtain ⟨v2, w2, hr, h2, h3⟩ := app_any w1 _ _ _ l 25 _ m hown1 (isB_own ho1) hsw (by omega)
          rw [put_ok l m hf] at HSTEP
          have HR := hid_of hr
          have H2 := hid_of h2
          have H3 : Hid (Kept (fun _ => False) w w2) := hks.grown h3 (fun g hg => .inl (HOWN.out.lt g hg).1)
          have HLE : Hid ((l ++ m).length = l.length + m.length) := List.length_append
          clear hp ho1 hk1 hown1 hr h2 h3 HOWN HKEPT hks
          go_wp2_with (at_builtin; refine wp_app rfl (.tmp 38) (.tmp 39) 25 25 rfl _ _ rfl rfl v2 w2 HR.out ?_)
          go_roundw
          case rel =>
            refine ⟨k + 1, l ++ m, by omega, by go_num, HSTEP.out, ?_, H3.out⟩
            rw [HLE.out]
            exact H2.out
          case measure => simp [intOf]; omega
        · have hfI : 4194304 < (l.length : Int) + (m.length : Int) := by omega
          have hml : (m.length : Int) ≤ 70000 := by omega
          rw [put_full l m (by omega)] at HSTEP
          have e := run_stops its (k + 1) 2 HSTEP.out
          have HE := hid_of e
          have HKS := hid_of hks
          clear hp ho1 hk1 hown1 HOWN HKEPT hks HSTEP e
          go_wp2
          go_ret2
          rw [HE.out]
          exact ⟨_, rfl, World.ownsRow_nil _ _ _ _, HKS.out⟩
    · have e : its.take k = its := List.take_of_length_le (by rw [HN.out]; omega)
      rw [e] at hrun
      have HE := hid_of hrun
      have HO := hid_of hown
      have HK := hid_of hkept
      clear hrun hown hkept HIT HOK e
      go_wp2
      go_ret2
      rw [HE.out]
      exact ⟨_, rfl, HO.out, HK.out⟩
end Go.Proofs.Ytffabihenhejfaa

/-
  Qde: Qd, Qe.
-/
import Derived.Test.YtnjhnlohjhdcpaaMb
import Derived.Test.YtnjhnlohjhdcpaaQc
import Derived.Test.YtnjhnlohjhdcpaaGrw
import Derived.Deep.RegionHeld3
namespace Go.Proofs.Ytnjhnlohjhdcpaa
open Go.RowKit
set_option linter.unusedVariables false
set_option linter.unusedSimpArgs false

set_option maxRecDepth 100000 in
set_option maxHeartbeats 4000000 in
theorem rdone_any (g c : Nat) (its : List ItV) (N : Nat) (w : World) (hN : its.length = N) (hm : N ≤ 1000000) (hit : ItemsAt w g its) (hok : ∀ i, i < N → ItOk w (its.getD i ItV.default)) :
    Calls Try.prog 21 #[.slice (some ⟨g, 0, none⟩) N c] w fun e w' => ∃ v', e = .returned (.tuple #[v', .int .i64 (run its).err]) ∧ w'.ownsRow w.heap.size 5 1 v' (run its).bytes.length ((run its).bytes.map (Value.int .u8)) ∧ Kept (fun _ => False) w w' := by
  obtain ⟨i0, hi, hz0, hz1, hz2⟩ := info_parts Try.info5
  have HN := hid_of hN
  have HIT := hid_of hit
  have HOK := hid_of hok
  clear hN hit hok
  go_enter Try.func21, Try.ntmps21
  go_wp2
  go_loopw [4, 5] (fun v i wr => ∃ (k : Nat) (l : List Int), k ≤ N ∧ i = .int .i64 k ∧ run (its.take k) = .ok l ∧ wr.ownsRow w.heap.size 5 1 v l.length (l.map (Value.int .u8)) ∧ Kept (fun _ => False) w wr) (fun _ i _ => N - (intOf i).toNat)
  case atStart => exact ⟨0, [], Nat.zero_le _, rfl, rfl, World.ownsRow_nil _ _ _ _, Kept.refl _ _⟩
  case round =>
    obtain ⟨k, l, hk, rfl, hrun, hown, hkept⟩ := hrel
    by_cases hlt : k < N
    · obtain ⟨q0, q1, q2⟩ := HIT.out k (by rw [HN.out]; exact hlt)
      obtain ⟨o1, o2, o3, o4, o5, o6, o7⟩ := HOK.out k hlt
      have hstep := run_take its k (by rw [HN.out]; exact hlt)
      generalize its.getD k ItV.default = x at *
      obtain ⟨xk, xn, bv, xs⟩ := x
      dsimp only at q0 q1 q2 o1 o2 o3 o4 o5 o6 o7 hstep
      have r0 := hkept.cell q0 (fun f => f)
      have r1 := hkept.cell q1 (fun f => f)
      have r2 := hkept.cell q2 (fun f => f)
      have hib := item_bytes (.ok l) xk xn xs o1 o2
      rw [hrun, hib] at hstep
      have HOWN := hid_of hown
      have HKEPT := hid_of hkept
      have HSTEP := hid_of hstep
      obtain ⟨ao, bc, rfl⟩ := o5.shape
      have hll := run_ok_len _ l hrun
      have hll' : (l.length : Int) ≤ 4194304 := by omega
      clear q0 q1 q2 hrun hib hown hkept hstep HIT HOK o6
      obtain ⟨uo, uc, rfl⟩ := ownsRow_shape HOWN.out
      have key : (xk = 1 ∧ xn < 0) ∨ (xk = 1 ∧ 0 ≤ xn) ∨ ((xk == 1) = false ∧ xk ≠ 1) := by simp; omega
      rcases key with ⟨rfl, hneg⟩ | ⟨rfl, hnn⟩ | ⟨hkb, hkn⟩
      · rw [if_pos ⟨rfl, hneg⟩] at HSTEP
        have e := run_stops its (k + 1) 1 HSTEP.out
        have HE := hid_of e
        have HKK := HKEPT
        clear HSTEP HOWN HKEPT e o5
        go_wp2
        go_ret2
        rw [HE.out]
        exact ⟨_, rfl, World.ownsRow_nil _ _ _ _, HKK.out⟩
      · rw [if_neg (by omega)] at HSTEP
        have hbl := itemBytes_len 1 xn xs o7 o3 o4
        have hp := hid_of (rput_any 1 xn (.slice ao xs.length bc) xs wr o1 o2 o3 o4 (fun _ => hnn) (o5.kept HKEPT.out (fun _ _ f => f)) o7)
        clear o5
        generalize itemBytes 1 xn xs = m at *
        go_wp2_with fail
        refine hp.out.mono ?_
        rintro e w1 ⟨v1, rfl, ho1, hk1⟩
        have hown1 := hk1.ownsRow HOWN.out (fun _ _ f => f)
        have hsw := Nat.le_trans HKEPT.out.size hk1.size
        obtain ⟨vo, vc, rfl⟩ := ownsRow_shape ho1
        have hks : Kept (fun _ => False) w w1 := HKEPT.out.trans hk1
        by_cases hf : l.length + m.length ≤ 4194304
        · have hfI : (l.length : Int) + (m.length : Int) ≤ 4194304 := by omega
          obtain ⟨v2, w2, hr, h2, h3⟩ := app_any w1 _ _ _ l 22 _ m hown1 (isB_own ho1) hsw (by omega)
          rw [put_ok l m hf] at HSTEP
          have HR := hid_of hr
          have H2 := hid_of h2
          have H3 : Hid (Kept (fun _ => False) w w2) := hks.grown h3 (fun g hg => .inl (HOWN.out.lt g hg).1)
          have HLE : Hid ((l ++ m).length = l.length + m.length) := List.length_append
          clear hp ho1 hk1 hown1 hr h2 h3 HOWN HKEPT hks
          go_wp2_with (at_builtin; refine wp_app rfl (.tmp 38) (.tmp 39) 22 22 rfl _ _ rfl rfl v2 w2 HR.out ?_)
          go_roundw
          case rel =>
            refine ⟨k + 1, l ++ m, by omega, by go_num, HSTEP.out, ?_, H3.out⟩
            rw [HLE.out]
            exact H2.out
          case measure => simp [intOf]; omega
        · have hfI : 4194304 < (l.length : Int) + (m.length : Int) := by omega
          have hml : (m.length : Int) ≤ 70000 := by omega
          rw [put_full l m (by omega)] at HSTEP
          have e := run_stops its (k + 1) 2 HSTEP.out
          have HE := hid_of e
          have HKS := hid_of hks
          clear hp ho1 hk1 hown1 HOWN HKEPT hks HSTEP e
          go_wp2
          go_ret2
          rw [HE.out]
          exact ⟨_, rfl, World.ownsRow_nil _ _ _ _, HKS.out⟩
      · rw [if_neg (by omega)] at HSTEP
        have hbl := itemBytes_len xk xn xs o7 o3 o4
        have hp := hid_of (rput_any xk xn (.slice ao xs.length bc) xs wr o1 o2 o3 o4 (fun h => absurd h hkn) (o5.kept HKEPT.out (fun _ _ f => f)) o7)
        clear o5
        generalize itemBytes xk xn xs = m at *
        go_wp2_with fail
        refine hp.out.mono ?_
        rintro e w1 ⟨v1, rfl, ho1, hk1⟩
        have hown1 := hk1.ownsRow HOWN.out (fun _ _ f => f)
        have hsw := Nat.le_trans HKEPT.out.size hk1.size
        obtain ⟨vo, vc, rfl⟩ := ownsRow_shape ho1
        have hks : Kept (fun _ => False) w w1 := HKEPT.out.trans hk1
        by_cases hf : l.length + m.length ≤ 4194304
        · have hfI : (l.length : Int) + (m.length : Int) ≤ 4194304 := by omega
          obtain ⟨v2, w2, hr, h2, h3⟩ := app_any w1 _ _ _ l 22 _ m hown1 (isB_own ho1) hsw (by omega)
          rw [put_ok l m hf] at HSTEP
          have HR := hid_of hr
          have H2 := hid_of h2
          have H3 : Hid (Kept (fun _ => False) w w2) := hks.grown h3 (fun g hg => .inl (HOWN.out.lt g hg).1)
          have HLE : Hid ((l ++ m).length = l.length + m.length) := List.length_append
          clear hp ho1 hk1 hown1 hr h2 h3 HOWN HKEPT hks
          go_wp2_with (at_builtin; refine wp_app rfl (.tmp 38) (.tmp 39) 22 22 rfl _ _ rfl rfl v2 w2 HR.out ?_)
          go_roundw
          case rel =>
            refine ⟨k + 1, l ++ m, by omega, by go_num, HSTEP.out, ?_, H3.out⟩
            rw [HLE.out]
            exact H2.out
          case measure => simp [intOf]; omega
        · have hfI : 4194304 < (l.length : Int) + (m.length : Int) := by omega
          have hml : (m.length : Int) ≤ 70000 := by omega
          rw [put_full l m (by omega)] at HSTEP
          have e := run_stops its (k + 1) 2 HSTEP.out
          have HE := hid_of e
          have HKS := hid_of hks
          clear hp ho1 hk1 hown1 HOWN HKEPT hks HSTEP e
          go_wp2
          go_ret2
          rw [HE.out]
          exact ⟨_, rfl, World.ownsRow_nil _ _ _ _, HKS.out⟩
    · have e : its.take k = its := List.take_of_length_le (by rw [HN.out]; omega)
      rw [e] at hrun
      have HE := hid_of hrun
      have HO := hid_of hown
      have HK := hid_of hkept
      clear hrun hown hkept HIT HOK e
      go_wp2
      go_ret2
      rw [HE.out]
      exact ⟨_, rfl, HO.out, HK.out⟩
set_option maxRecDepth 100000 in
set_option maxHeartbeats 1000000 in
theorem rdone_nil (w : World) : Calls Try.prog 21 #[.slice none 0 0] w fun e w' => e = .returned (.tuple #[.slice none 0 0, .int .i64 0]) ∧ w' = w := by
  go_enter Try.func21, Try.ntmps21
  go_wp2
  go_loop [4, 5] (fun v i => v = .slice none 0 0 ∧ i = .int .i64 0) (fun _ _ => 0)
  case atStart => exact ⟨rfl, rfl⟩
  case round =>
    obtain ⟨rfl, rfl⟩ := hrel
    go_wp2
    go_ret2
    exact ⟨rfl, rfl⟩
/-- The document's Done, over a row of items (or none yet). -/
theorem rdone_row (v : Value) (its : List ItV) (w : World) (hm : its.length ≤ 1000000) (hr : Row w v its) (hok : ∀ i, i < its.length → ItOk w (its.getD i ItV.default)) :
    Calls Try.prog 21 #[v] w fun e w' => ∃ v', e = .returned (.tuple #[v', .int .i64 (run its).err]) ∧ w'.ownsRow w.heap.size 5 1 v' (run its).bytes.length ((run its).bytes.map (Value.int .u8)) ∧ Kept (fun _ => False) w w' := by
  have hr0 := hr
  rcases World.ownsRow.mk' hr0 with ⟨rfl, hn⟩ | ⟨g, cap, rfl⟩
  · obtain rfl : its = [] := List.length_eq_zero_iff.1 hn
    refine (rdone_nil w).mono ?_
    rintro e w' ⟨rfl, rfl⟩
    exact ⟨_, rfl, World.ownsRow_nil _ _ _ _, Kept.refl _ _⟩
  · exact rdone_any g cap its its.length w rfl hm (Row.items hr) hok
end Go.Proofs.Ytnjhnlohjhdcpaa

namespace Go.Proofs.Ytnjhnlohjhdcpaa
open Go.ChangeShapes Go.WideShapes Go.ChangeAt Go.RowKit Go.Deep
set_option linter.unusedVariables false
set_option linter.unusedSimpArgs false
set_option maxRecDepth 100000

/-- A function's bytes; the bytes ahead of them; all. -/
def fnB (f : FN) : List Int := Mth.form f.a ++ Mth.form f.l ++ Mth.form f.r ++ (Mth.form (encB f.code).length ++ encB f.code)
def headB (p : PG) : List Int := Mth.form 2 ++ Mth.form p.mem ++ (Mth.form p.data.length ++ p.data) ++ Mth.form p.fns.length
def bytesP (p : PG) : List Int := headB p ++ p.fns.flatMap fnB
def encPE (p : PG) : Int := if checkP p = 0 then (if 1048576 < (bytesP p).length then 2 else 0) else checkP p
/-- What Encode leaves. -/
def EncPR (p : PG) (w : World) (e : Ending) (w' : World) : Prop :=
  Kept (fun _ => False) w w' ∧
  if encPE p = 0 then ∃ v', e = .returned (.tuple #[v', .int .i64 0]) ∧ w'.ownsRow w.heap.size 5 1 v' (bytesP p).length ((bytesP p).map (Value.int .u8))
  else e = .returned (.tuple #[.slice none 0 0, .int .i64 (encPE p)])

/-- A number as an item; bytes as an item. -/
def itN (n : Int) : ItV := ⟨1, n, .slice none 0 0, []⟩
def itB (bv : Value) (xs : List Int) : ItV := ⟨4, 0, bv, xs⟩
set_option maxHeartbeats 1000000 in
theorem rnum_any (n : Int) (w : World) : Calls Try.prog 31 #[.int .i64 n] w fun e w' => e = .returned (.agg #[.int .i64 1, .int .i64 n, .slice none 0 0]) ∧ Kept (fun _ => False) w w' := by
  have hbA := heap_alloc_new w (.cells #[.int .i64 1, .int .i64 n, .slice none 0 0] 63)
  have hkA : Kept (fun _ => False) w (w.alloc (.cells #[.int .i64 1, .int .i64 n, .slice none 0 0] 63)) := (Kept.refl _ _).alloc _
  have c0 := cell_block _ w.heap.size 0 _ _ _ hbA
  have c1 := cell_block _ w.heap.size 1 _ _ _ hbA
  have c2 := cell_block _ w.heap.size 2 _ _ _ hbA
  have HK := hid_of hkA
  clear hkA hbA
  go_enter Try.func31, Try.ntmps31
  go_wp2
  exact bodyPost_ret (v := .agg #[.int .i64 1, .int .i64 n, .slice none 0 0]) (by simp [results, Try.results31, go_sem]) rfl ⟨rfl, HK.out⟩

/-- What holds of the items so far. -/
structure EnK (w wr : World) (tv : Value) (its : List ItV) : Prop where
  row : wr.ownsRow w.heap.size 63 3 tv its.length (its.flatMap ItV.cells)
  ok : ∀ x ∈ its, ItOk wr x
  off : ∀ x ∈ its, ∀ g, x.bv.ownBlock = some g → g < wr.heap.size ∧ tv.ownBlock ≠ some g
  kept : Kept (fun _ => False) w wr
theorem EnK.same {w wr w' : World} {tv : Value} {its : List ItV} (h : EnK w wr tv its) (hk : Kept (fun _ => False) wr w') : EnK w w' tv its :=
  ⟨hk.ownsRow h.row (fun _ _ f => f), fun x hx => by
    obtain ⟨h1, h2, h3, h4, h5, h6⟩ := h.ok x hx
    exact ⟨h1, h2, h3, h4, h5.kept hk (fun _ _ f => f), h6⟩, fun x hx g hg => ⟨Nat.lt_of_lt_of_le (h.off x hx g hg).1 hk.size, (h.off x hx g hg).2⟩, h.kept.trans hk⟩
theorem okN (w : World) (n : Int) (h0 : -9223372036854775808 ≤ n) (h1 : n < 9223372036854775808) : ItOk w (itN n) := ⟨show (1 : Int) ≤ 1 by decide, show (1 : Int) ≤ 6 by decide, h0, h1, .inl ⟨rfl, none, 0, rfl⟩, fun y hy => by simp [itN] at hy, by simp [itN]⟩
theorem okB (w : World) (bv : Value) (xs : List Int) (h : IsB w bv xs) (hx : ∀ y ∈ xs, 0 ≤ y ∧ y ≤ 255) (hl : xs.length ≤ 65536) : ItOk w (itB bv xs) := ⟨show (1 : Int) ≤ 4 by decide, show (4 : Int) ≤ 6 by decide, show (-9223372036854775808 : Int) ≤ 0 by decide, show (0 : Int) < 9223372036854775808 by decide, h, hx, hl⟩
section
variable {P : Program} {ops : Array Oper} {o : Oper} {a : Act} {w : World} {K : Act → World → Prop} {Q : Exit → Act → World → Prop} {E : Prop}
theorem stp_app (hgd : o.guard = none) (s x : Operand) (t u : TypeId) (ho : o.op = .call { callee := .builtin .append, args := #[s, x], argTypes := #[t, u] }) (v bv : Value) (hs : a.eval s = v) (hx : a.eval x = bv) (v' : Value) (w' : World)
    (hr : (Builtin.append_ #[t, u] o.type #[v, bv]).run P w = .ok v' w') (h : K (a.put o.dst v') w') : if Region.wanted o (yielded ops a.tmps) = true then Oper.wp P o a w K Q else E := by
  have hw : Region.wanted o (yielded ops a.tmps) = true := by simp [Region.wanted, hgd]
  rw [if_pos hw]
  unfold Oper.wp execOp
  simp only [ho, resolve, invoke, builtin, Sem.run_bind, Sem.run_pure, Result.andThen_ok, List.map_toArray, List.map_cons, List.map_nil, hs, hx, hr]
  exact h
end
theorem item_num (l : List Int) (n : Int) (h0 : 0 ≤ n) (h1 : n < 9223372036854775808) (hl : l.length ≤ 4194000) : St.item (.ok l) 1 n [] = .ok (l ++ Mth.form n) := num_ok l n h0 h1 hl
theorem item_byt (l xs : List Int) (hx : xs.length ≤ 65536) (hl : l.length ≤ 4000000) : St.item (.ok l) 4 0 xs = .ok (l ++ (Mth.form xs.length ++ xs)) := by
  have := (Mth.form_length (xs.length : Int) (by omega)).2
  show St.put (.ok l) (Mth.form xs.length ++ xs) = _
  rw [put_ok _ _ (by rw [List.length_append]; omega)]
theorem run_fn {its : List ItV} {l : List Int} (f : FN) (bv : Value) (h : run its = .ok l) (hl : l.length ≤ 3900000) (ha : 0 ≤ f.a ∧ f.a ≤ 16) (hll : 0 ≤ f.l ∧ f.l ≤ 64) (hr : 0 ≤ f.r ∧ f.r ≤ 1) (hb : (encB f.code).length ≤ 40960) :
    run (its ++ [itN f.a, itN f.l, itN f.r, itB bv (encB f.code)]) = .ok (l ++ fnB f) := by
  have l1 := (Mth.form_length f.a (by omega)).2
  have l2 := (Mth.form_length f.l (by omega)).2
  have l3 := (Mth.form_length f.r (by omega)).2
  rw [show its ++ [itN f.a, itN f.l, itN f.r, itB bv (encB f.code)] = (((its ++ [itN f.a]) ++ [itN f.l]) ++ [itN f.r]) ++ [itB bv (encB f.code)] by simp, run_snoc, run_snoc, run_snoc, run_snoc, h]
  show St.item (St.item (St.item (St.item (.ok l) 1 f.a []) 1 f.l []) 1 f.r []) 4 0 (encB f.code) = _
  rw [item_num l f.a ha.1 (by omega) (by omega), item_num _ f.l hll.1 (by omega) (by rw [List.length_append]; omega), item_num _ f.r hr.1 (by omega) (by rw [List.length_append, List.length_append]; omega), item_byt _ _ (by omega) (by rw [List.length_append, List.length_append, List.length_append]; omega)]
  simp [fnB]
theorem run_head (p : PG) (dv : Value) (hm : 0 ≤ p.mem ∧ p.mem ≤ 65536) (hd : p.data.length ≤ 65536) (hf : p.fns.length ≤ 64) : run [itN 2, itN p.mem, itB dv p.data, itN p.fns.length] = .ok (headB p) ∧ (headB p).length ≤ 65600 := by
  have l0 := (Mth.form_length 2 (by omega)).2
  have l1 := (Mth.form_length p.mem (by omega)).2
  have l2 := (Mth.form_length (p.data.length : Int) (by omega)).2
  have l3 := (Mth.form_length (p.fns.length : Int) (by omega)).2
  constructor
  · show St.item (St.item (St.item (St.item (.ok []) 1 2 []) 1 p.mem []) 4 0 p.data) 1 p.fns.length [] = _
    rw [item_num [] 2 (by omega) (by omega) (by simp), item_num _ p.mem hm.1 (by omega) (by rw [List.length_append]; simp; omega), item_byt _ _ hd (by rw [List.length_append, List.length_append]; simp; omega), item_num _ _ (by omega) (by omega) (by simp only [List.length_append, List.length_nil]; omega)]
    simp [headB]
  · simp only [headB, List.length_append]; omega
theorem fnB_len {f : FN} (ha : 0 ≤ f.a ∧ f.a ≤ 16) (hll : 0 ≤ f.l ∧ f.l ≤ 64) (hr : 0 ≤ f.r ∧ f.r ≤ 1) (hb : (encB f.code).length ≤ 40960) : (fnB f).length ≤ 41000 := by
  have l1 := (Mth.form_length f.a (by omega)).2
  have l2 := (Mth.form_length f.l (by omega)).2
  have l3 := (Mth.form_length f.r (by omega)).2
  have l4 := (Mth.form_length ((encB f.code).length : Int) (by omega)).2
  simp only [fnB, List.length_append]; omega
theorem flat_len (its : List ItV) : (its.flatMap ItV.cells).length = its.length * 3 := by
  induction its with
  | nil => rfl
  | cons x l ih => rw [List.flatMap_cons, List.length_append, ih, List.length_cons]; simp [ItV.cells]; omega
theorem cells_one {new : List ItV} (h : ∀ x ∈ new, x.bv.oneCell' = true) : ∀ u ∈ new.flatMap ItV.cells, u.oneCell' = true := fun u hu => by
  obtain ⟨x, hx, hu⟩ := List.mem_flatMap.1 hu
  simp [ItV.cells] at hu
  rcases hu with rfl | rfl | rfl
  · rfl
  · rfl
  · exact h x hx
/-- Items are appended. -/
theorem EnK.app {w W : World} {tv : Value} {its : List ItV} (h : EnK w W tv its) (new : List ItV) (hsz : (its.length + new.length) * 40 ≤ 140737488355328) (hok : ∀ x ∈ new, ItOk W x) (hoff : ∀ x ∈ new, ∀ g, x.bv.ownBlock = some g → g < W.heap.size ∧ tv.ownBlock ≠ some g) (hone : ∀ x ∈ new, x.bv.oneCell' = true) :
    ∃ tv' w', (Builtin.append_ #[37, 37] 37 #[tv, .slice (some ⟨W.heap.size, 0, none⟩) new.length new.length]).run Try.prog (W.alloc (.cells (new.flatMap ItV.cells).toArray 63)) = .ok tv' w' ∧ EnK w w' tv' (its ++ new) ∧ Kept (fun k => tv.ownBlock = some k) W w' := by
  obtain ⟨i0, hi, hz0, hz1, hz2⟩ := info_parts Try.info63
  obtain ⟨v', w', hr, h2, h3, h4, _⟩ := append_old (P := Try.prog) (W.alloc (.cells (new.flatMap ItV.cells).toArray 63)) w.heap.size 37 37 63 i0 _ 3 40 Try.underlying37 hi hz0 hz1 hz2 rfl (by decide) tv its.length (its.flatMap ItV.cells) (h.row.alloc _) ⟨W.heap.size, 0, none⟩ new.length new.length (new.flatMap ItV.cells) (flat_len new) (fun j u hj => by
    rw [Addr.add_lit, cell_block _ _ _ _ _ _ (heap_alloc_new W _), Nat.zero_add]
    simpa using hj) (cells_one hone) (by unfold maxLen; omega) hsz (by have := h.kept.size; simp; omega)
  have hk : Kept (fun k => tv.ownBlock = some k) W w' := kept_grown h3 ((Kept.refl _ W).alloc _)
  have hsz2 : (W.alloc (.cells (new.flatMap ItV.cells).toArray 63)).heap.size = W.heap.size + 1 := by simp
  have hall : ∀ x ∈ its ++ new, ItOk W x ∧ ∀ g, x.bv.ownBlock = some g → g < W.heap.size ∧ tv.ownBlock ≠ some g := fun x hx => by
    rcases List.mem_append.1 hx with hx | hx
    · exact ⟨h.ok x hx, h.off x hx⟩
    · exact ⟨hok x hx, hoff x hx⟩
  refine ⟨v', w', hr, ⟨by rw [List.length_append, List.flatMap_append]; exact h2, fun x hx => ?_, fun x hx g hg => ?_, h.kept.step hk (fun q hq e => ?_)⟩, hk⟩
  · obtain ⟨⟨a1, a2, a3, a4, a5, a6⟩, b⟩ := hall x hx
    exact ⟨a1, a2, a3, a4, a5.kept hk (fun g hg e => (b g hg).2 e), a6⟩
  · obtain ⟨b1, b2⟩ := (hall x hx).2 g hg
    refine ⟨Nat.lt_of_lt_of_le b1 hk.size, fun e => ?_⟩
    rcases h4 with e' | e'
    · rw [e'] at e; exact b2 e
    · rw [e', hsz2] at e
      have := Option.some.inj e
      omega
  · have := (h.row.lt q e).1
    omega
/-- The first items. -/
theorem EnK.first (w W : World) (hk : Kept (fun _ => False) w W) (new : List ItV) (hn : new.length ≤ 1000) (hok : ∀ x ∈ new, ItOk W x) (hoff : ∀ x ∈ new, ∀ g, x.bv.ownBlock = some g → g < W.heap.size) :
    EnK w (W.alloc (.cells (new.flatMap ItV.cells).toArray 63)) (.slice (some ⟨W.heap.size, 0, none⟩) new.length new.length) new := by
  have hkA : Kept (fun _ => False) W (W.alloc (.cells (new.flatMap ItV.cells).toArray 63)) := (Kept.refl _ _).alloc _
  refine ⟨?_, fun x hx => ?_, fun x hx g hg => ⟨Nat.lt_of_lt_of_le (hoff x hx g hg) hkA.size, fun e => ?_⟩, hk.trans hkA⟩
  · have := World.ownsRow_lit (base := w.heap.size) (e := 63) (size := 3) W (new.flatMap ItV.cells).toArray new.length hk.size (by unfold maxLen; omega) (by rw [List.size_toArray, flat_len])
    simpa using this
  · obtain ⟨a1, a2, a3, a4, a5, a6⟩ := hok x hx
    exact ⟨a1, a2, a3, a4, a5.kept hkA (fun _ _ f => f), a6⟩
  · have h1 : W.heap.size = g := Option.some.inj e
    have := hoff x hx g hg
    omega
end Go.Proofs.Ytnjhnlohjhdcpaa

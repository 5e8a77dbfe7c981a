/-
  The document's Put, of an item, by contract.
-/
import Derived.Test.YtffabihenhejfaaRef
import Derived.Deep.AppendSrc
namespace Go.Proofs.Ytffabihenhejfaa
open Go.RowKit
set_option linter.unusedVariables false

/-- The bytes of an item. -/
def itemBytes (k n : Int) (xs : List Int) : List Int :=
  if k = 1 then Mth.form n else if k = 2 then Mth.form (fold n) else if k = 3 then [if (n == 1) = true then 1 else 0]
  else if k = 4 then Mth.form xs.length ++ xs else if k = 5 then Mth.form xs.length ++ xs else xs

/-- append of no bytes, from a nil slice. -/
theorem app_nil (W : World) (v : Value) (n base : Nat) (xs : List Value) (ty : TypeId) (c : Nat) (hown : W.ownsRow base 5 1 v n xs) : (Builtin.append_ #[25, 25] ty #[v, .slice none 0 c]).run Try.prog W = .ok v W := by
  obtain ⟨i0, hi, hz0, hz1, hz2⟩ := info_parts Try.info5
  rcases hown.2 with ⟨rfl, rfl⟩ | ⟨g, cap, cur, rfl, hb, hg, hn, hm, hs, ht⟩
  · simp [Builtin.append_, run_underlying Try.underlying25, sizeOf, typeInfo, hi, Builtin.lenOf, Builtin.firstCells]
  · have := run_append_room_src (P := Try.prog) W 25 25 ty 5 i0 Try.underlying25 hi g 0 n cap (.slice none 0 c) 0 [] (Src.ofNil W Try.underlying25 c) (by omega) (by simp) (by simp)
    simpa [World.setCells] using this

/-- append of bytes onto a row of one's own, from whatever slice they lie in. -/
theorem app_any (W : World) (v : Value) (n base : Nat) (l : List Int) (ty : TypeId) (bv : Value) (xs : List Int) (hown : W.ownsRow base 5 1 v n (l.map (Value.int .u8))) (hx : IsB W bv xs) (hb : base ≤ W.heap.size) (hsz : n + xs.length ≤ 140737488355328) :
    ∃ v' w', (Builtin.append_ #[25, 25] ty #[v, bv]).run Try.prog W = .ok v' w' ∧ w'.ownsRow base 5 1 v' (n + xs.length) ((l ++ xs).map (Value.int .u8)) ∧ W.grownBy w' v.ownBlock := by
  obtain ⟨i0, hi, hz0, hz1, hz2⟩ := info_parts Try.info5
  have key : ∀ (p : Addr) (c : Nat), (∀ i, i < xs.length → W.cell? (p.add i) = some (.int .u8 (xs.getD i 0))) → ∃ v' w', (Builtin.append_ #[25, 25] ty #[v, .slice (some p) xs.length c]).run Try.prog W = .ok v' w' ∧ w'.ownsRow base 5 1 v' (n + xs.length) ((l ++ xs).map (Value.int .u8)) ∧ W.grownBy w' v.ownBlock := by
    intro p c hc
    obtain ⟨v', w', hr, h2, h3, h4⟩ := run_append_own (P := Try.prog) W base 25 ty 5 i0 (.int .u8 0) 1 1 Try.underlying25 hi hz0 hz1 hz2 rfl (by decide) v n _ hown p xs.length c (xs.map (Value.int .u8)) (by simp) (map_cells rfl hc) (map_one xs) (by unfold maxLen; omega) (by omega) hb
    exact ⟨v', w', hr, by rw [List.map_append]; exact h2, h3⟩
  rcases hx with ⟨rfl, ao, c, rfl⟩ | ⟨g, o, c, rfl, hc⟩
  · cases ao with
    | none => exact ⟨v, W, app_nil W v n base _ ty c hown, by simpa using hown, ⟨rfl, rfl, rfl, Nat.le_refl _, fun _ _ _ => rfl⟩⟩
    | some p => exact key p c (fun i hi => absurd hi (by simp))
  · exact key ⟨g, o, none⟩ c (fun i hi => by rw [Addr.add_lit]; exact hc i hi)

/-- An append whose outcome is known, for the walk. -/
theorem wp_app {w : World} {ops : Array Oper} {rest : List Oper} {o : Oper} {a : Act} {Q : Exit → Act → World → Prop} (hgd : o.guard = none) (s x : Operand) (t u : TypeId)
    (ho : o.op = .call { callee := .builtin .append, args := #[s, x], argTypes := #[t, u] }) (v bv : Value) (hs : a.eval s = v) (hx : a.eval x = bv) (v' : Value) (w' : World)
    (hr : (Builtin.append_ #[t, u] o.type #[v, bv]).run Try.prog w = .ok v' w') (h : wpList Try.prog ops Q rest (a.put o.dst v') w') : wpList Try.prog ops Q (o :: rest) a w := by
  refine wpList_plain hgd fun K hK => ?_
  unfold Oper.wp execOp
  simp only [ho, resolve, invoke, builtin, Sem.run_bind, Sem.run_pure, Result.andThen_ok, List.map_toArray, List.map_cons, List.map_nil, hs, hx, hr]
  exact hK _ _ h

theorem own_less {w : World} {B B' : Nat} {v : Value} {m : Nat} {l : List Value} (h : w.ownsRow B' 5 1 v m l) (hB : B ≤ B') : w.ownsRow B 5 1 v m l := by
  refine ⟨h.1, ?_⟩
  rcases h.2 with h | ⟨g, cap, cur, e, hb, r⟩
  · exact .inl h
  · exact .inr ⟨g, cap, cur, e, by omega, r⟩
theorem own_one (W : World) (x : Value) (B : Nat) (hB : B ≤ W.heap.size) : (W.alloc (.cells #[x] 5)).ownsRow B 5 1 (.slice (some ⟨W.heap.size, 0, none⟩) 1 1) 1 [x] :=
  ⟨rfl, .inr ⟨W.heap.size, 1, #[x], rfl, hB, heap_alloc_new W _, Nat.le_refl _, by decide, rfl, rfl⟩⟩

set_option maxRecDepth 100000 in
set_option maxHeartbeats 4000000 in
theorem rput_any (k n : Int) (bv : Value) (xs : List Int) (w : World) (hk0 : 1 ≤ k) (hk1 : k ≤ 6) (hn0 : -9223372036854775808 ≤ n) (hn1 : n < 9223372036854775808) (hkn : k = 1 → 0 ≤ n)
    (hx : IsB w bv xs) (hl : xs.length ≤ 65536) :
    Calls Try.prog 56 #[.agg #[.int .i64 k, .int .i64 n, bv]] w fun e w' => ∃ v', e = .returned v' ∧ w'.ownsRow w.heap.size 5 1 v' (itemBytes k n xs).length ((itemBytes k n xs).map (Value.int .u8)) ∧ Kept (fun _ => False) w w' := by
  obtain ⟨ao, c, hbv⟩ := hx.shape
  have hK : Kept (fun _ => False) w (w.alloc (.cells #[.int .i64 k, .int .i64 n, bv] 27)) := (Kept.refl _ _).alloc _
  have hsz : (w.alloc (.cells #[.int .i64 k, .int .i64 n, bv] 27)).heap.size = w.heap.size + 1 := by simp
  have hxb : IsB (w.alloc (.cells #[.int .i64 k, .int .i64 n, bv] 27)) bv xs := hx.kept hK (fun _ _ f => f)
  have hbox := heap_alloc_new w (.cells #[.int .i64 k, .int .i64 n, bv] 27)
  have hk : k = 1 ∨ k = 2 ∨ k = 3 ∨ k = 4 ∨ k = 5 ∨ k = 6 := by omega
  have HKB := hid_of hK
  have HXB := hid_of hxb
  have HSZ := hid_of hsz
  have HBOX := hid_of hbox
  clear hx hK hxb hsz hbox hk0 hk1
  subst hbv
  rcases hk with rfl | rfl | rfl | rfl | rfl | rfl
  · have hf := hid_of (rform_any n (w.alloc (.cells #[.int .i64 1, .int .i64 n, .slice ao xs.length c] 27)) (hkn rfl) (by omega))
    have hn2 := hkn rfl
    clear hkn
    go_enter Try.func56, Try.ntmps56
    go_wp2_with fail
    refine hf.out.mono ?_
    rintro e w1 ⟨v1, rfl, ho, hk1⟩
    rw [HSZ.out] at ho
    have H1 := hid_of (own_less ho (Nat.le_succ w.heap.size))
    have H2 := hid_of (HKB.out.trans hk1)
    clear ho hk1 hf HKB HXB HSZ HBOX
    go_wp2
    go_ret
    exact ⟨v1, rfl, H1.out, H2.out⟩
  · clear hkn
    have hf := hid_of (rfold_any n (w.alloc (.cells #[.int .i64 2, .int .i64 n, .slice ao xs.length c] 27)) hn0 hn1)
    have hfl := fold_le n hn0 hn1
    have hf2 := hid_of (rform_any (fold n) (w.alloc (.cells #[.int .i64 2, .int .i64 n, .slice ao xs.length c] 27)) hfl.1 hfl.2)
    clear hfl
    go_enter Try.func56, Try.ntmps56
    go_wp2_with fail
    refine hf.out.mono ?_
    rintro e w0 ⟨rfl, rfl⟩
    go_wp2_with fail
    refine hf2.out.mono ?_
    rintro e w1 ⟨v1, rfl, ho, hk1⟩
    rw [HSZ.out] at ho
    have H1 := hid_of (own_less ho (Nat.le_succ w.heap.size))
    have H2 := hid_of (HKB.out.trans hk1)
    clear ho hk1 hf hf2 HKB HXB HSZ HBOX
    go_wp2
    go_ret
    exact ⟨v1, rfl, H1.out, H2.out⟩
  · clear hkn
    by_cases h1 : n = 1
    · subst h1
      have hw1 := own_one (w.alloc (.cells #[.int .i64 3, .int .i64 1, .slice ao xs.length c] 27)) (.int .u8 1) w.heap.size (by simp)
      rw [HSZ.out] at hw1
      have HW1 := hid_of hw1
      clear hw1
      go_enter Try.func56, Try.ntmps56
      go_wp2
      go_ret
      exact ⟨_, rfl, HW1.out, HKB.out.alloc _⟩
    · have h1b : (n == 1) = false := by simp [h1]
      have hw1 := own_one (w.alloc (.cells #[.int .i64 3, .int .i64 n, .slice ao xs.length c] 27)) (.int .u8 0) w.heap.size (by simp)
      rw [HSZ.out] at hw1
      have HW1 := hid_of hw1
      have he : itemBytes 3 n xs = [0] := by simp [itemBytes, h1]
      have HE := hid_of he
      clear he
      clear hw1
      go_enter Try.func56, Try.ntmps56
      go_wp2
      go_ret
      rw [HE.out]
      exact ⟨_, rfl, HW1.out, HKB.out.alloc _⟩
  · clear hkn
    have hf := hid_of (rform_any xs.length (w.alloc (.cells #[.int .i64 4, .int .i64 n, .slice ao xs.length c] 27)) (by omega) (by omega))
    have hll : (xs.length : Int) ≤ 65536 := by omega
    go_enter Try.func56, Try.ntmps56
    go_wp2_with fail
    refine hf.out.mono ?_
    rintro e w1 ⟨v1, rfl, ho, hk1⟩
    rw [HSZ.out] at ho
    have hfl := (Mth.form_length xs.length (by omega)).2
    obtain ⟨v2, w2, hr, h2, h3⟩ := app_any w1 v1 _ _ _ 25 (.slice ao xs.length c) xs ho (HXB.out.kept hk1 (fun _ _ f => f)) (by have := hk1.size; rw [HSZ.out] at this; exact this) (by omega)
    have b2 : w1.cell? ⟨w.heap.size, 2, none⟩ = some (.slice ao xs.length c) := by
      rw [cell_block _ _ _ _ _ _ ((hk1.block _ (by rw [HSZ.out]; omega) (fun f => f)).trans HBOX.out)]; rfl
    have H1 := hid_of (own_less h2 (Nat.le_succ w.heap.size))
    have H2 : Hid (Kept (fun _ => False) w w2) := (HKB.out.trans hk1).grown h3 (fun g hg => .inl (Nat.le_of_succ_le (ho.lt g hg).1))
    have HE : Hid ((Mth.form xs.length ++ xs).length = (Mth.form xs.length).length + xs.length) := List.length_append
    have HR := hid_of hr
    clear ho hk1 hf HKB HXB HSZ HBOX h2 h3 hr
    go_wp2_with (at_builtin; refine wp_app rfl (.tmp 37) (.tmp 39) 25 25 rfl _ _ rfl rfl v2 w2 HR.out ?_)
    go_ret
    refine ⟨v2, rfl, ?_, H2.out⟩
    have H3 := H1.out
    rw [← HE.out] at H3
    exact H3
  · clear hkn
    have hf := hid_of (rform_any xs.length (w.alloc (.cells #[.int .i64 5, .int .i64 n, .slice ao xs.length c] 27)) (by omega) (by omega))
    have hll : (xs.length : Int) ≤ 65536 := by omega
    go_enter Try.func56, Try.ntmps56
    go_wp2_with fail
    refine hf.out.mono ?_
    rintro e w1 ⟨v1, rfl, ho, hk1⟩
    rw [HSZ.out] at ho
    have hfl := (Mth.form_length xs.length (by omega)).2
    obtain ⟨v2, w2, hr, h2, h3⟩ := app_any w1 v1 _ _ _ 25 (.slice ao xs.length c) xs ho (HXB.out.kept hk1 (fun _ _ f => f)) (by have := hk1.size; rw [HSZ.out] at this; exact this) (by omega)
    have b2 : w1.cell? ⟨w.heap.size, 2, none⟩ = some (.slice ao xs.length c) := by
      rw [cell_block _ _ _ _ _ _ ((hk1.block _ (by rw [HSZ.out]; omega) (fun f => f)).trans HBOX.out)]; rfl
    have H1 := hid_of (own_less h2 (Nat.le_succ w.heap.size))
    have H2 : Hid (Kept (fun _ => False) w w2) := (HKB.out.trans hk1).grown h3 (fun g hg => .inl (Nat.le_of_succ_le (ho.lt g hg).1))
    have HE : Hid ((Mth.form xs.length ++ xs).length = (Mth.form xs.length).length + xs.length) := List.length_append
    have HR := hid_of hr
    clear ho hk1 hf HKB HXB HSZ HBOX h2 h3 hr
    go_wp2_with (at_builtin; refine wp_app rfl (.tmp 37) (.tmp 39) 25 25 rfl _ _ rfl rfl v2 w2 HR.out ?_)
    go_ret
    refine ⟨v2, rfl, ?_, H2.out⟩
    have H3 := H1.out
    rw [← HE.out] at H3
    exact H3
  · clear hkn
    obtain ⟨v2, w2, hr, h2, h3⟩ := app_any (w.alloc (.cells #[.int .i64 6, .int .i64 n, .slice ao xs.length c] 27)) (.slice none 0 0) 0 w.heap.size [] 25 (.slice ao xs.length c) xs (World.ownsRow_nil _ _ _ _) HXB.out (by rw [HSZ.out]; omega) (by omega)
    have H1 := hid_of h2
    have H2 : Hid (Kept (fun _ => False) w w2) := HKB.out.grown h3 (fun g hg => by cases hg)
    have HR := hid_of hr
    clear HKB HXB HSZ HBOX h2 h3 hr
    go_enter Try.func56, Try.ntmps56
    go_wp2_with (at_builtin; refine wp_app rfl (.tmp 28) (.tmp 30) 25 25 rfl _ _ rfl rfl v2 w2 HR.out ?_)
    go_ret
    refine ⟨v2, rfl, ?_, H2.out⟩
    have H3 := H1.out
    rw [Nat.zero_add] at H3
    exact H3
end Go.Proofs.Ytffabihenhejfaa

/-
  A string's bytes appended to a row of one's own: where the row lies behind it.
-/
import Derived.Test.YtffabihenhejfaaPut
import Derived.Lib.AppendStr
namespace Go.Proofs.Ytffabihenhejfaa
open Go.RowKit Go.Lib
set_option linter.unusedVariables false

section
variable {P : Program} (w : World)

theorem str_at (t u ty e : TypeId) (i : TypeInfo) (ht : P.underlying t = some (.slice e)) (hu : P.underlying u = some .string) (hi : P.info? e = some i) (hz : i.zero = some (.int .u8 0)) (hsize : i.size = 1) (hby : i.bytes = 1)
    (v : Value) (n : Nat) (xs : List Value) (hown : w.ownsRow 0 e 1 v n xs) (s : ByteArray) (h63 : n + s.size ≤ 140737488355328) :
    ∃ v' w', (Builtin.append_ #[t, u] ty #[v, .string s]).run P w = .ok v' w' ∧ w'.ownsRow 0 e 1 v' (n + s.size) (xs ++ strCells s) ∧ w.grownBy w' v.ownBlock ∧ (v'.ownBlock = v.ownBlock ∨ v'.ownBlock = some w.heap.size) := by
  obtain ⟨v', w', hr, h2, h3, h4⟩ := run_append_own_string (P := P) w 0 t u ty e i ht hu hi hz hsize hby v n xs hown s (by unfold maxLen; omega) h63 (Nat.zero_le _)
  refine ⟨v', w', hr, h2, h3, ?_⟩
  have hxl : xs.length = n := by simpa using hown.1
  rcases hown.2 with ⟨rfl, rfl⟩ | ⟨g, cap, cur, rfl, hbg, hg, hnc, hcm, hcs, htake⟩
  · by_cases hm : s.size = 0
    · rw [h4.2 ⟨rfl, hm⟩]
      exact .inl rfl
    · have hr2 := run_append_nil_string (P := P) w t u ty e i (.int .u8 0) ht hu hi hz s (by omega) (by omega) (by rw [hby]; omega)
      rw [hr2] at hr
      injection hr with e1 e2
      rw [← e1]
      exact .inr rfl
  · by_cases hroom : n + s.size ≤ cap
    · have hcs' : cur.size = cap := by simpa using hcs
      have hr2 := run_append_room_string (P := P) w t u ty e i ht hu hi hsize g n cap cur hg s hroom (by omega)
      rw [hr2] at hr
      injection hr with e1 e2
      rw [← e1]
      exact .inl rfl
    · have holds : ∀ j u, xs[j]? = some u → w.cell? ((⟨g, 0, none⟩ : Addr).add j) = some u := hown.cells (g := g) rfl
      have hr2 := run_append_grow_string (P := P) w t u ty e i (.int .u8 0) ht hu hi hz ⟨g, 0, none⟩ n cap xs (by rw [hsize]; simpa using hxl) holds s (by omega) (by omega) (by rw [hby]; exact growslice_fits (by omega) (by omega))
      rw [hr2] at hr
      injection hr with e1 e2
      rw [← e1]
      exact .inr rfl

theorem wp_str_at {ops : Array Oper} {rest : List Oper} {o : Oper} {a : Act} {Q : Exit → Act → World → Prop} (hgd : o.guard = none) (sl x : Operand) (t u : TypeId)
    (ho : o.op = .call { callee := .builtin .append, args := #[sl, x], argTypes := #[t, u] })
    (e : TypeId) (i : TypeInfo) (ht : P.underlying t = some (.slice e)) (hu : P.underlying u = some .string) (hi : P.info? e = some i) (hz : i.zero = some (.int .u8 0)) (hsize : i.size = 1) (hby : i.bytes = 1)
    (v : Value) (n : Nat) (xs : List Value) (hs : a.eval sl = v) (hown : w.ownsRow 0 e 1 v n xs) (s : ByteArray) (hx : a.eval x = .string s) (h63 : n + s.size ≤ 140737488355328)
    (h : ∀ v' w', w'.ownsRow 0 e 1 v' (n + s.size) (xs ++ strCells s) → w.grownBy w' v.ownBlock → (v'.ownBlock = v.ownBlock ∨ v'.ownBlock = some w.heap.size) → wpList P ops Q rest (a.put o.dst v') w') : wpList P ops Q (o :: rest) a w := by
  refine wpList_plain hgd fun K hK => ?_
  obtain ⟨v', w', hr, h2, h3, h4⟩ := str_at (P := P) w t u o.type e i ht hu hi hz hsize hby v n xs hown s h63
  unfold Oper.wp execOp
  simp only [ho, resolve, invoke, builtin, Sem.run_bind, Sem.run_pure, Result.andThen_ok, List.map_toArray, List.map_cons, List.map_nil, hs, hx, hr]
  exact hK _ _ (h v' w' h2 h3 h4)
end

/-- A string's bytes as numbers. -/
def nums (s : ByteArray) : List Int := s.data.toList.map fun b => (b.toNat : Int)
theorem nums_length (s : ByteArray) : (nums s).length = s.size := by simp [nums]
theorem nums_cells (s : ByteArray) : (nums s).map (Value.int .u8) = strCells s := by simp [nums, strCells]

set_option maxRecDepth 100000 in
set_option maxHeartbeats 1000000 in
/-- Text's second half, where there is room. -/
theorem text_s (a : Nat) (v : Value) (s : St) (t : ByteArray) (w : World) (hw : WS w a v s) (ht : t.size ≤ maxLen) :
    Calls Try.prog 32 #[.pointer (some ⟨a, 0, none⟩), .string t] w (PutS a v (s.put (Mth.form t.size ++ nums t)) w) := by
  obtain ⟨i0, hi, hz0, hz1, hz2⟩ := info_parts Try.info5
  unfold maxLen at ht
  have ht' : (t.size : Int) ≤ 9223372036854775807 := by omega
  have hn := num_s a v s t.size w hw (by omega) (by omega)
  unfold St.num at hn
  rw [if_neg (by omega)] at hn
  have HT := hid_of (St.put_put s (Mth.form t.size) (nums t))
  generalize s.put (Mth.form t.size ++ nums t) = T at *
  generalize s.put (Mth.form t.size) = s1 at *
  have HN := hid_of hn
  clear hn hw
  go_enter Try.func32, Try.ntmps32
  go_wp2_with fail
  refine HN.out.mono ?_
  rintro e w1 ⟨rfl, v1, hw1, hk1, ho1⟩
  have HK := hid_of hk1
  have HO := hid_of ho1
  clear HN hk1 ho1
  cases s1 with
  | error k =>
    have hr := hid_of (room_bad a k t.size w1 hw1.1 hw1.2.1 (by omega) (by omega))
    have HW := hid_of hw1
    clear hw1
    go_wp2_with fail
    refine hr.out.mono ?_
    rintro e w2 ⟨rfl, rfl⟩
    clear hr
    go_wp2
    go_end0
    rw [← HT.out]
    exact PutS.next HK.out HO.out (PutS.same HW.out)
  | ok l =>
    by_cases hf : l.length + t.size ≤ 4194304
    · obtain ⟨⟨hb, hown, hne⟩, hl⟩ := hw1
      obtain ⟨ao, cap, rfl⟩ := ownsRow_shape hown
      have h0 : w1.cell? ⟨a, 0, none⟩ = some (.slice ao l.length cap) := by rw [cell_block w1 a 0 _ _ _ hb]; rfl
      have h1 : w1.cell? ⟨a, 1, none⟩ = some (.int .i64 0) := by rw [cell_block w1 a 1 _ _ _ hb]; rfl
      have hal : a < w1.heap.size := (Array.getElem?_eq_some_iff.1 hb).1
      have hr := hid_of (room_ok a l.length cap ao t.size w1 h0 h1 (by omega) (by omega))
      go_wp2_with fail
      refine hr.out.mono ?_
      rintro e w2 ⟨rfl, rfl⟩
      clear hr
      go_wp2_with (at_builtin; refine wp_str_at _ rfl (.tmp 16) (.tmp 17) 25 9 rfl 5 i0 Try.underlying25 Try.underlying9 hi hz0 hz1 hz2 _ _ _ rfl hown t rfl (by omega) ?_)
      intro v' w' hown' hgrow hat
      rw [← nums_cells] at hown'
      have HP : Hid (PutS a (.slice ao l.length cap) (St.put (.ok l) (nums t)) w2 (.returned (.tuple #[])) (w'.setCell ⟨a, 0, none⟩ v')) := by
        obtain ⟨q1, q2, q3⟩ := raw_close hb hown hne hown' hgrow hat
        refine ⟨rfl, v', ?_, q2, fun g hg => ?_⟩
        · simp only [St.put, nums_length, if_pos hf]
          exact ⟨q1, by simp [nums_length]; omega⟩
        · rcases q3 with h3 | h3
          · exact .inl (by rw [← h3]; exact hg)
          · rw [h3] at hg; exact .inr (Nat.le_of_eq (Option.some.inj hg))
      obtain ⟨ao', cap', rfl⟩ := ownsRow_shape hown'
      have hb' : w'.heap[a]? = some (.cells #[.slice ao l.length cap, .int .i64 0] 78 (0, 0)) := (hgrow.block a hal (fun e => hne e.symm)).trans hb
      have k0 : w'.cell? ⟨a, 0, none⟩ = some (.slice ao l.length cap) := by rw [cell_block w' a 0 _ _ _ hb']; rfl
      have kf : w'.frozen? ⟨a, 0, none⟩ = false := frozen_block w' a 0 _ _ hb'
      clear hown' hgrow hat hown hb hb' h0 h1
      go_wp2
      go_end0
      rw [← HT.out]
      exact PutS.next HK.out HO.out HP.out
    · have hr := hid_of (room_full a v1 l t.size w1 hw1.1 (by omega) (by omega) (by have := hw1.2; omega))
      clear hw1
      go_wp2_with fail
      refine hr.out.mono ?_
      rintro e w2 ⟨rfl, hb2, hk2⟩
      have HP : Hid (PutS a v1 (St.put (.ok l) (nums t)) w1 (.returned (.tuple #[])) w2) := by
        refine ⟨rfl, .slice none 0 0, ?_, hk2.mono (fun _ _ e => .inl e), fun g hg => by cases hg⟩
        simp only [St.put, nums_length, if_neg hf]
        exact ⟨hb2, by decide, rfl⟩
      clear hr hb2 hk2
      go_wp2
      go_end0
      rw [← HT.out]
      exact PutS.next HK.out HO.out HP.out
end Go.Proofs.Ytffabihenhejfaa

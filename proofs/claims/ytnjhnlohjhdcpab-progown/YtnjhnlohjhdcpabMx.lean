/-
  mint's Bytes and Raw, written and read.
-/
import Derived.Test.YtnjhnlohjhdcpabMc
namespace Go.Proofs.Ytnjhnlohjhdcpab
open Go.RowKit
set_option linter.unusedVariables false
set_option linter.unusedSimpArgs false

theorem app_none5 (w : World) (base : Nat) (v : Value) (n : Nat) (xs : List Value) (hown : w.ownsRow base 5 1 v n xs) (c : Nat) : (Builtin.append_ #[22, 22] 22 #[v, .slice none 0 c]).run Try.prog w = .ok v w := by
  obtain ⟨i0, hi, hz0, hz1, hz2⟩ := info_parts Try.info5
  rcases hown.2 with ⟨rfl, rfl⟩ | ⟨g, cap, cur, rfl, _, _, hnc, _⟩
  · simp [Builtin.append_, run_underlying Try.underlying22, sizeOf, typeInfo, hi, Builtin.lenOf, Builtin.firstCells]
  · simp [Builtin.append_, run_underlying Try.underlying22, sizeOf, typeInfo, hi, Builtin.lenOf, Builtin.firstCells, hnc, storeCells]
theorem wp_app1 {w : World} {ops : Array Oper} {rest : List Oper} {o : Oper} {a : Act} {Q : Exit → Act → World → Prop} (hgd : o.guard = none) (s x : Operand) (t u : TypeId)
    (ho : o.op = .call { callee := .builtin .append, args := #[s, x], argTypes := #[t, u] }) (v bv : Value) (hs : a.eval s = v) (hx : a.eval x = bv) (v' : Value) (w' : World)
    (hr : (Builtin.append_ #[t, u] o.type #[v, bv]).run Try.prog w = .ok v' w') (h : wpList Try.prog ops Q rest (a.put o.dst v') w') : wpList Try.prog ops Q (o :: rest) a w := by
  refine wpList_plain hgd fun K hK => ?_
  unfold Oper.wp execOp
  simp only [ho, resolve, invoke, builtin, Sem.run_bind, Sem.run_pure, Result.andThen_ok, List.map_toArray, List.map_cons, List.map_nil, hs, hx, hr]
  exact hK _ _ h
set_option maxRecDepth 100000 in
set_option maxHeartbeats 1000000 in
theorem raw_none (a : Nat) (v : Value) (l : List Int) (c : Nat) (w : World) (hw : Wr w a v l) (hl : l.length ≤ 4194304) :
    Calls Try.prog 38 #[.pointer (some ⟨a, 0, none⟩), .slice none 0 c] w fun e w' => e = .returned (.tuple #[]) ∧ Wr w' a v l ∧ Kept (fun k => k = a) w w' := by
  obtain ⟨hb, hown, hne⟩ := hw
  obtain ⟨ao, cap, rfl⟩ := ownsRow_shape hown
  have h0 : w.cell? ⟨a, 0, none⟩ = some (.slice ao l.length cap) := by rw [cell_block w a 0 _ _ _ hb]; rfl
  have h1 : w.cell? ⟨a, 1, none⟩ = some (.int .i64 0) := by rw [cell_block w a 1 _ _ _ hb]; rfl
  have kf : w.frozen? ⟨a, 0, none⟩ = false := frozen_block w a 0 _ _ hb
  have hal : a < w.heap.size := (Array.getElem?_eq_some_iff.1 hb).1
  have hm1 : (l.length : Int) + (0 : Int) ≤ 4194304 := by omega
  have HR := hid_of (app_none5 w 0 _ _ _ hown c)
  have HW : Hid (Wr (w.setCell ⟨a, 0, none⟩ (.slice ao l.length cap)) a (.slice ao l.length cap) l) := ⟨by rw [set_block w a 0 _ _ _ hb]; rfl, (kept_set w a 0 _).ownsRow hown (fun g hg e => by subst e; exact hne hg), hne⟩
  have HK := hid_of (kept_set w a 0 (.slice ao l.length cap))
  have HRM := hid_of (room_ok a l.length cap ao 0 w h0 h1 (by decide) hm1)
  clear hb hown hne h1 hm1 hl
  generalize l.length = n at *
  go_enter Try.func38, Try.ntmps38
  go_wp2_with fail
  refine HRM.out.mono ?_
  rintro e w1 ⟨rfl, rfl⟩
  clear HRM
  go_wp2_with (at_builtin; refine wp_app1 rfl (.tmp 12) (.tmp 13) 22 22 rfl _ _ rfl rfl _ _ HR.out ?_)
  go_end0
  exact ⟨rfl, HW.out, HK.out⟩
/-- Raw, of bytes that may be none at all. -/
theorem raw_p (a : Nat) (v : Value) (s : St) (bv : Value) (xs : List Int) (w : World) (hw : WS w a v s) (hb : IsB w bv xs) (hm : xs.length ≤ maxLen) :
    Calls Try.prog 38 #[.pointer (some ⟨a, 0, none⟩), bv] w (PutS a v (s.put xs) w) := by
  rcases hb with ⟨rfl, ao, c, rfl⟩ | ⟨g, o, c, rfl, hc⟩
  · cases ao with
    | some p => exact raw_s a v s p 0 c [] w hw rfl (by decide) (fun i hi => absurd hi (by omega))
    | none =>
      cases s with
      | error e =>
        refine (raw_bad a e none 0 c w hw.1 hw.2.1 (by decide)).mono ?_
        rintro r w1 ⟨rfl, rfl⟩
        exact PutS.same hw
      | ok l =>
        refine (raw_none a v l c w hw.1 hw.2).mono ?_
        rintro r w1 ⟨rfl, h1, h2⟩
        refine ⟨rfl, v, ?_, h2.mono (fun _ _ e => .inl e), fun g hg => .inl hg⟩
        have e : St.put (.ok l) [] = .ok l := by
          have := hw.2
          show (if l.length + ([] : List Int).length ≤ 4194304 then _ else _) = _
          rw [if_pos (by simpa using this), List.append_nil]
        rw [e]
        exact ⟨h1, hw.2⟩
  · exact raw_s a v s ⟨g, o, none⟩ xs.length c xs w hw rfl hm (fun i hi => by rw [Addr.add_lit]; exact hc i hi)
set_option maxRecDepth 100000 in
set_option maxHeartbeats 1000000 in
/-- Bytes, of bytes that may be none at all. -/
theorem bytes_p (a : Nat) (v : Value) (s : St) (bv : Value) (xs : List Int) (w : World) (hw : WS w a v s) (hb : IsB w bv xs) (hm : xs.length ≤ maxLen) (hoff : ∀ g, bv.ownBlock = some g → g ≠ a ∧ v.ownBlock ≠ some g) :
    Calls Try.prog 22 #[.pointer (some ⟨a, 0, none⟩), bv] w (PutS a v (s.put (Mth.form xs.length ++ xs)) w) := by
  have hm' := hm
  unfold maxLen at hm'
  have hn := num_s a v s xs.length w hw (by omega) (by omega)
  unfold St.num at hn
  rw [if_neg (by omega)] at hn
  obtain ⟨ao, c, rfl⟩ := hb.shape
  have HN := hid_of hn
  have HB := hid_of hb
  have HM := hid_of hm
  have HOFF := hid_of hoff
  clear hn hw hb hm hm' hoff
  obtain ⟨m, hmx⟩ : ∃ m, m = xs.length := ⟨_, rfl⟩
  rw [← hmx] at HN HB HOFF HM ⊢
  have HMX := hid_of hmx
  clear hmx
  go_enter Try.func22, Try.ntmps22
  go_wp2_with fail
  refine HN.out.mono ?_
  rintro e w1 ⟨rfl, v1, hw1, hk1, ho1⟩
  have hraw := hid_of (raw_p a v1 _ (.slice ao m c) xs w1 hw1 (HB.out.kept hk1 (fun g hg h => by
    rcases h with h | h
    · exact (HOFF.out g hg).1 h
    · exact (HOFF.out g hg).2 h)) (by rw [← HMX.out]; exact HM.out))
  have HK := hid_of hk1
  have HO := hid_of ho1
  clear HN HB hw1 hk1 ho1
  go_wp2_with fail
  refine hraw.out.mono ?_
  intro e w2 hp
  have HP := hid_of (PutS.next HK.out HO.out hp)
  obtain ⟨rfl, _⟩ := hp
  clear hraw HK HO
  go_wp2
  go_end0
  rw [St.put_put] at HP
  exact HP.out

set_option maxRecDepth 100000 in
set_option maxHeartbeats 1000000 in
theorem rraw (r g n : Nat) (v : Value) (xs : List Int) (w : World) (f : Int) (hr : Rd w r v true f) (hx : IsR w g v xs) (hgr : g ≠ r) (hg : g < w.heap.size) (hn : n ≤ xs.length) (hl : n ≤ 140737488355328) :
    Calls Try.prog 56 #[.pointer (some ⟨r, 0, none⟩), .int .i64 n] w fun e w' => (∃ v', e = .returned v' ∧ w'.ownsRow w.heap.size 5 1 v' n ((xs.take n).map (Value.int .u8))) ∧ After w w' r g f (xs.drop n) := by
  obtain ⟨_, _, _, _, _, _, hlr⟩ := hr.cells
  have ht := hid_of (take_ok r g n v xs w f hr hx hgr hn)
  have hlt : (xs.take n).length = n := by rw [List.length_take]; omega
  have hnI : (0 : Int) ≤ (n : Int) := by omega
  have HLT := hid_of hlt
  clear hr hx hlt
  go_enter Try.func56, Try.ntmps56
  go_wp2_with fail
  refine ht.out.mono ?_
  rintro e w1 ⟨⟨v1, rfl, hb, hbg, hnn⟩, haf⟩
  have hcl := hid_of (clone_isB v1 (xs.take n) w1 hb (by rw [HLT.out]; exact hl) hnn)
  have HA := hid_of haf
  clear ht haf hb hbg hnn
  go_wp2_with fail
  refine hcl.out.mono ?_
  rintro e w2 ⟨v2, rfl, ho, hbl⟩
  have HA2 := hid_of (HA.out.new hlr hg hbl)
  have hs1 : w.heap.size ≤ w1.heap.size := by obtain ⟨_, _, _, k⟩ := HA.out; exact k.size
  have HO := hid_of (own_less ho hs1)
  clear hcl ho hbl HA
  go_wp2
  go_ret
  refine ⟨⟨v2, rfl, ?_⟩, HA2.out⟩
  have := HO.out
  rw [HLT.out] at this
  exact this

set_option maxRecDepth 100000 in
set_option maxHeartbeats 1000000 in
theorem rbytes (r g : Nat) (v : Value) (bs rest : List Int) (w : World) (f : Int) (hr : Rd w r v true f) (hx : IsR w g v (Mth.form bs.length ++ (bs ++ rest))) (hgr : g ≠ r) (hg : g < w.heap.size) (hl : bs.length ≤ 140737488355328) :
    Calls Try.prog 43 #[.pointer (some ⟨r, 0, none⟩)] w fun e w' => (∃ v', e = .returned v' ∧ w'.ownsRow w.heap.size 5 1 v' bs.length (bs.map (Value.int .u8))) ∧ After w w' r g f rest := by
  have hf := hid_of (rnum r g v bs.length (bs ++ rest) w f hr hx hgr (by omega) (by omega))
  clear hr hx
  go_enter Try.func43, Try.ntmps43
  go_wp2_with fail
  refine hf.out.mono ?_
  rintro e w1 ⟨rfl, haf⟩
  have haf0 := haf
  obtain ⟨v1, h1, h2, h3⟩ := haf0
  have hraw := rraw r g bs.length v1 (bs ++ rest) w1 f h1 h2 hgr (Nat.lt_of_lt_of_le hg h3.size) (by simp) hl
  rw [List.take_left' rfl, List.drop_left' rfl] at hraw
  have HR := hid_of hraw
  have HA := hid_of haf
  have HS := hid_of h3.size
  clear hf haf h1 h2 h3 hraw
  go_wp2_with fail
  refine HR.out.mono ?_
  rintro e w2 ⟨⟨v2, rfl, ho⟩, haf2⟩
  have HO := hid_of (own_less ho HS.out)
  have HA2 := hid_of (HA.out.trans haf2)
  clear HR ho haf2
  go_wp2
  go_ret
  exact ⟨⟨v2, rfl, HO.out⟩, HA2.out⟩

set_option maxRecDepth 100000 in
set_option maxHeartbeats 1000000 in
theorem raw_cut_x (r g n : Nat) (v : Value) (xs : List Int) (w : World) (f : Int) (hr : Rd w r v true f) (hx : IsR w g v xs) (hn : xs.length < n) (hn' : n ≤ 9223372036854775807) :
    Calls Try.prog 56 #[.pointer (some ⟨r, 0, none⟩), .int .i64 n] w (ThrewF r 11 w) := by
  have HF := hid_of (take_bad_x r g n v xs w f hr hx hn hn')
  obtain ⟨q0, q1, q2, f0, f1, f2, hl⟩ := hr.cells
  clear hr hx
  go_enter Try.func56, Try.ntmps56
  go_wp2_with fail
  refine HF.out.mono ?_
  rintro e w1 ⟨rfl, h2, h3⟩
  exact ⟨rfl, rfl, h2, h3⟩

set_option maxRecDepth 100000 in
set_option maxHeartbeats 1000000 in
theorem raw_neg_x (r : Nat) (n : Int) (v : Value) (w : World) (f : Int) (hr : Rd w r v true f) (hn : n < 0) :
    Calls Try.prog 56 #[.pointer (some ⟨r, 0, none⟩), .int .i64 n] w (ThrewF r 1 w) := by
  have HF := hid_of (fail_x r v f 1 w hr (by decide))
  obtain ⟨q0, q1, q2, f0, f1, f2, hl⟩ := hr.cells
  clear hr
  go_enter Try.func56, Try.ntmps56
  go_wp2_with fail
  refine HF.out.mono ?_
  rintro e w1 ⟨rfl, h2, h3⟩
  exact ⟨rfl, rfl, h2, h3⟩

/-- Raw, over any bytes. -/
theorem raw_x (r g : Nat) (n : Int) (v : Value) (xs : List Int) (w : World) (f : Int) (hr : Rd w r v true f) (hx : IsR w g v xs) (hgr : g ≠ r) (hg : g < w.heap.size) (hl : xs.length ≤ 140737488355328) (hn' : n ≤ 9223372036854775807) :
    Calls Try.prog 56 #[.pointer (some ⟨r, 0, none⟩), .int .i64 n] w (Outs (rawD n xs) r g f w fun ys e w' => ∃ v', e = .returned v' ∧ w'.ownsRow w.heap.size 5 1 v' ys.length (ys.map (Value.int .u8))) := by
  unfold rawD
  by_cases h0 : n < 0
  · rw [if_pos h0]
    exact raw_neg_x r n v w f hr h0
  · rw [if_neg h0]
    obtain ⟨m, rfl⟩ := Int.eq_ofNat_of_zero_le (by omega : 0 ≤ n)
    by_cases h : (xs.length : Int) < (m : Int)
    · rw [if_pos h]
      exact raw_cut_x r g m v xs w f hr hx (by omega) (by omega)
    · rw [if_neg h]
      refine (rraw r g m v xs w f hr hx hgr hg (by omega) (by omega)).mono ?_
      rintro e w' ⟨⟨v', rfl, ho⟩, ha⟩
      refine ⟨⟨v', rfl, ?_⟩, ha⟩
      rw [show (xs.take (m : Int).toNat).length = m from by rw [List.length_take]; simp; omega]
      exact ho

set_option maxRecDepth 100000 in
set_option maxHeartbeats 1000000 in
/-- Bytes, over any bytes. -/
theorem bytes_x (r g : Nat) (v : Value) (xs : List Int) (w : World) (f : Int) (hr : Rd w r v true f) (hx : IsR w g v xs) (hgr : g ≠ r) (hg : g < w.heap.size) (hl : xs.length ≤ 140737488355328) (hb : ∀ x ∈ xs, 0 ≤ x ∧ x ≤ 255) :
    Calls Try.prog 43 #[.pointer (some ⟨r, 0, none⟩)] w (Outs (bytesD xs) r g f w fun ys e w' => ∃ v', e = .returned v' ∧ w'.ownsRow w.heap.size 5 1 v' ys.length (ys.map (Value.int .u8))) := by
  have hnx := num_x r g v xs w f hr hx hgr hb
  have hle : ∀ u rest, numD xs = .ok (u, rest) → rest.length ≤ xs.length := fun u rest h => by
    rcases formD_cases xs hb with ⟨u', rest', h', he, _⟩ | h' | h'
    · have := (numD_ok h).1
      rw [h'] at this
      cases this
      rw [he, List.length_append]
      omega
    · have := (numD_ok h).1; rw [h'.1] at this; cases this
    · have := (numD_ok h).1; rw [h'.1] at this; cases this
  unfold bytesD
  cases hd : numD xs with
  | error flt =>
    rw [hd] at hnx
    have HN := hid_of hnx
    clear hr hx hnx
    go_enter Try.func43, Try.ntmps43
    go_wp2_with fail
    refine HN.out.mono ?_
    rintro e w1 ⟨rfl, h2, h3⟩
    exact ⟨rfl, rfl, h2, h3⟩
  | ok p =>
    obtain ⟨u, rest⟩ := p
    rw [hd] at hnx
    have hrl := hle u rest hd
    have HN := hid_of hnx
    clear hr hx hnx hle hd
    dsimp only
    obtain ⟨d, hd⟩ : ∃ d, d = rawD u rest := ⟨_, rfl⟩
    rw [← hd]
    have HD := hid_of hd
    clear hd
    go_enter Try.func43, Try.ntmps43
    go_wp2_with fail
    refine HN.out.mono ?_
    rintro e w1 ⟨⟨rfl, h0, h1⟩, v1, a1, a2, a3⟩
    have HR := hid_of (raw_x r g u v1 rest w1 f a1 a2 hgr (Nat.lt_of_lt_of_le hg a3.size) (by omega) h1)
    have HK := hid_of a3
    clear HN a1 a2 a3 hb
    go_wp2_with fail
    refine HR.out.mono ?_
    intro e w2 ho
    rw [← HD.out] at ho
    cases d with
    | error flt =>
      obtain ⟨rfl, h2, h3⟩ := ThrewF.behind ho HK.out
      exact ⟨rfl, rfl, h2, h3⟩
    | ok p =>
      obtain ⟨ys, rest'⟩ := p
      obtain ⟨⟨v', rfl, ho⟩, v2, b1, b2, b3⟩ := ho
      have HO := hid_of (own_less ho HK.out.size)
      have HA : Hid (After w w2 r g f rest') := ⟨v2, b1, b2, HK.out.trans b3⟩
      clear HR ho b1 b2 b3
      go_wp2
      go_ret
      exact ⟨⟨v', rfl, HO.out⟩, HA.out⟩
end Go.Proofs.Ytnjhnlohjhdcpab

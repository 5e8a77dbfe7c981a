/-
  The document's Done over any items.
-/
import Derived.Test.YtnjhnlohjhdcpaaQde
import Derived.Test.YtnjhnlohjhdcpaaWdz
import Derived.Test.YtnjhnlohjhdcpaaOq
namespace Go.Proofs.Ytnjhnlohjhdcpaa
open Go.ChangeShapes Go.WideShapes Go.ChangeAt Go.WideMaps Go.WideElems Go.RowKit Go.Deep
set_option linter.unusedVariables false
set_option linter.unusedSimpArgs false
set_option maxRecDepth 100000

def anyBytes (k n : Int) (xs : List Int) : List Int :=
  if k = 1 then Mth.form n else if k = 2 then Mth.form (fold n) else if k = 3 then [if (n == 1) = true then 1 else 0]
  else if k = 6 then xs else Mth.form xs.length ++ xs
theorem anyBytes_len (k n : Int) (xs : List Int) (hn : n < 9223372036854775808) (hn0 : -9223372036854775808 ≤ n) (hl : xs.length ≤ 140737488351232) : (anyBytes k n xs).length ≤ 140737488351241 := by
  unfold anyBytes
  have h1 := (Mth.form_length n (by omega)).2
  have h2 := fold_le n hn0 hn
  have h3 := (Mth.form_length (fold n) h2.2).2
  have h4 := (Mth.form_length xs.length (by omega)).2
  split
  · omega
  · split
    · omega
    · split
      · simp
      · split
        · omega
        · rw [List.length_append]; omega
theorem anyBytes_byte (k n : Int) (xs : List Int) (hn : n < 9223372036854775808) (hn0 : -9223372036854775808 ≤ n) (hl : xs.length ≤ 140737488351232) (hkn : k = 1 → 0 ≤ n) (hb : ∀ y ∈ xs, 0 ≤ y ∧ y ≤ 255) : ∀ y ∈ anyBytes k n xs, 0 ≤ y ∧ y ≤ 255 := by
  unfold anyBytes
  have h2 := fold_le n hn0 hn
  split
  · rename_i h; exact form_byte n (hkn h) (by omega)
  · split
    · exact form_byte _ h2.1 h2.2
    · split
      · intro y hy
        simp only [List.mem_singleton] at hy
        subst hy
        split <;> omega
      · split
        · exact hb
        · intro y hy
          rcases List.mem_append.1 hy with h | h
          · exact form_byte _ (by omega) (by omega) y h
          · exact hb y h
set_option maxHeartbeats 4000000 in
theorem rput_w (k n : Int) (bv : Value) (xs : List Int) (w : World) (hn0 : -9223372036854775808 ≤ n) (hn1 : n < 9223372036854775808) (hkn : k = 1 → 0 ≤ n)
    (hx : IsB w bv xs) (hl : xs.length ≤ 140737488351232) :
    Calls Try.prog 38 #[.agg #[.int .i64 k, .int .i64 n, bv]] w fun e w' => ∃ v', e = .returned v' ∧ w'.ownsRow w.heap.size 5 1 v' (anyBytes k n xs).length ((anyBytes k n xs).map (Value.int .u8)) ∧ Kept (fun _ => False) w w' := by
  obtain ⟨ao, c, hbv⟩ := hx.shape
  have hK : Kept (fun _ => False) w (w.alloc (.cells #[.int .i64 k, .int .i64 n, bv] 63)) := (Kept.refl _ _).alloc _
  have hsz : (w.alloc (.cells #[.int .i64 k, .int .i64 n, bv] 63)).heap.size = w.heap.size + 1 := by simp
  have hxb : IsB (w.alloc (.cells #[.int .i64 k, .int .i64 n, bv] 63)) bv xs := hx.kept hK (fun _ _ f => f)
  have hbox := heap_alloc_new w (.cells #[.int .i64 k, .int .i64 n, bv] 63)
  have hk : k = 1 ∨ k = 2 ∨ k = 3 ∨ k = 6 ∨ (k ≠ 1 ∧ k ≠ 2 ∧ k ≠ 3 ∧ k ≠ 6) := by omega
  have HKB := hid_of hK
  have HXB := hid_of hxb
  have HSZ := hid_of hsz
  have HBOX := hid_of hbox
  clear hx hK hxb hsz hbox
  subst hbv
  rcases hk with rfl | rfl | rfl | rfl | ⟨g1, g2, g3, g6⟩
  · have hf := hid_of (rform_any n (w.alloc (.cells #[.int .i64 1, .int .i64 n, .slice ao xs.length c] 63)) (hkn rfl) (by omega))
    have hn2 := hkn rfl
    clear hkn
    go_enter Try.func38, Try.ntmps38
    go_wp2_with fail
    refine hf.out.mono ?_
    rintro e w1 ⟨v1, rfl, ho, hk1⟩
    rw [HSZ.out] at ho
    have H1 := hid_of (own_less ho (Nat.le_succ w.heap.size))
    have H2 := hid_of (HKB.out.trans hk1)
    clear ho hk1 hf HKB HXB HSZ HBOX
    go_wp2
    go_ret
    exact ⟨v1, rfl, H1.out, H2.out⟩
  · clear hkn
    have hf := hid_of (rfold_any n (w.alloc (.cells #[.int .i64 2, .int .i64 n, .slice ao xs.length c] 63)) hn0 hn1)
    have hfl := fold_le n hn0 hn1
    have hf2 := hid_of (rform_any (fold n) (w.alloc (.cells #[.int .i64 2, .int .i64 n, .slice ao xs.length c] 63)) hfl.1 hfl.2)
    clear hfl
    go_enter Try.func38, Try.ntmps38
    go_wp2_with fail
    refine hf.out.mono ?_
    rintro e w0 ⟨rfl, rfl⟩
    go_wp2_with fail
    refine hf2.out.mono ?_
    rintro e w1 ⟨v1, rfl, ho, hk1⟩
    rw [HSZ.out] at ho
    have H1 := hid_of (own_less ho (Nat.le_succ w.heap.size))
    have H2 := hid_of (HKB.out.trans hk1)
    clear ho hk1 hf hf2 HKB HXB HSZ HBOX
    go_wp2
    go_ret
    exact ⟨v1, rfl, H1.out, H2.out⟩
  · clear hkn
    by_cases h1 : n = 1
    · subst h1
      have hw1 := own_one (w.alloc (.cells #[.int .i64 3, .int .i64 1, .slice ao xs.length c] 63)) (.int .u8 1) w.heap.size (by simp)
      rw [HSZ.out] at hw1
      have HW1 := hid_of hw1
      clear hw1
      go_enter Try.func38, Try.ntmps38
      go_wp2
      go_ret
      exact ⟨_, rfl, HW1.out, HKB.out.alloc _⟩
    · have h1b : (n == 1) = false := by simp [h1]
      have hw1 := own_one (w.alloc (.cells #[.int .i64 3, .int .i64 n, .slice ao xs.length c] 63)) (.int .u8 0) w.heap.size (by simp)
      rw [HSZ.out] at hw1
      have HW1 := hid_of hw1
      have he : anyBytes 3 n xs = [0] := by simp [anyBytes, h1]
      have HE := hid_of he
      clear he
      clear hw1
      go_enter Try.func38, Try.ntmps38
      go_wp2
      go_ret
      rw [HE.out]
      exact ⟨_, rfl, HW1.out, HKB.out.alloc _⟩
  · clear hkn
    obtain ⟨v2, w2, hr, h2, h3⟩ := app_any (w.alloc (.cells #[.int .i64 6, .int .i64 n, .slice ao xs.length c] 63)) (.slice none 0 0) 0 w.heap.size [] 22 (.slice ao xs.length c) xs (World.ownsRow_nil _ _ _ _) HXB.out (by rw [HSZ.out]; omega) (by omega)
    have H1 := hid_of h2
    have H2 : Hid (Kept (fun _ => False) w w2) := HKB.out.grown h3 (fun g hg => by cases hg)
    have HR := hid_of hr
    clear HKB HXB HSZ HBOX h2 h3 hr
    go_enter Try.func38, Try.ntmps38
    go_wp2_with (at_builtin; refine wp_app rfl (.tmp 28) (.tmp 30) 22 22 rfl _ _ rfl rfl v2 w2 HR.out ?_)
    go_ret
    refine ⟨v2, rfl, ?_, H2.out⟩
    have H3 := H1.out
    rw [Nat.zero_add] at H3
    exact H3

  · clear hkn
    have e1 : (k == 1) = false := by simp [g1]
    have e2 : (k == 2) = false := by simp [g2]
    have e3 : (k == 3) = false := by simp [g3]
    have e6 : (k == 6) = false := by simp [g6]
    have he : anyBytes k n xs = Mth.form xs.length ++ xs := by unfold anyBytes; rw [if_neg g1, if_neg g2, if_neg g3, if_neg g6]
    rw [he]
    clear he
    have hf := hid_of (rform_any xs.length (w.alloc (.cells #[.int .i64 k, .int .i64 n, .slice ao xs.length c] 63)) (by omega) (by omega))
    have hll : (xs.length : Int) ≤ 140737488351232 := by omega
    go_enter Try.func38, Try.ntmps38
    go_wp2_with fail
    refine hf.out.mono ?_
    rintro e w1 ⟨v1, rfl, ho, hk1⟩
    rw [HSZ.out] at ho
    have hfl := (Mth.form_length xs.length (by omega)).2
    obtain ⟨v2, w2, hr, h2, h3⟩ := app_any w1 v1 _ _ _ 22 (.slice ao xs.length c) xs ho (HXB.out.kept hk1 (fun _ _ f => f)) (by have := hk1.size; rw [HSZ.out] at this; exact this) (by omega)
    have b2 : w1.cell? ⟨w.heap.size, 2, none⟩ = some (.slice ao xs.length c) := by
      rw [cell_block _ _ _ _ _ _ ((hk1.block _ (by rw [HSZ.out]; omega) (fun f => f)).trans HBOX.out)]; rfl
    have H1 := hid_of (own_less h2 (Nat.le_succ w.heap.size))
    have H2 : Hid (Kept (fun _ => False) w w2) := (HKB.out.trans hk1).grown h3 (fun g hg => .inl (Nat.le_of_succ_le (ho.lt g hg).1))
    have HE : Hid ((Mth.form xs.length ++ xs).length = (Mth.form xs.length).length + xs.length) := List.length_append
    have HR := hid_of hr
    clear ho hk1 hf HKB HXB HSZ HBOX h2 h3 hr
    go_wp2_with (at_builtin; refine wp_app rfl (.tmp 37) (.tmp 39) 22 22 rfl _ _ rfl rfl v2 w2 HR.out ?_)
    go_ret
    refine ⟨v2, rfl, ?_, H2.out⟩
    have H3 := H1.out
    rw [← HE.out] at H3
    exact H3

/-- An item that is handed in. -/
structure ItW (w : World) (x : ItV) : Prop where
  n0 : -9223372036854775808 ≤ x.n
  n1 : x.n < 9223372036854775808
  b : IsB w x.bv x.xs
  ok : BytesOk x.xs
/-- Items in a row that is handed in. -/
def RowT (w : World) (v : Value) (its : List ItV) : Prop :=
  (its = [] ∧ ∃ ao c, v = .slice ao 0 c) ∨ ∃ g o c, v = .slice (some ⟨g, o, none⟩) its.length c ∧ ∀ i x, its[i]? = some x → ∀ (j : Nat) u, x.cells[j]? = some u → w.cell? ⟨g, o + (i * 3 + j), none⟩ = some u
theorem RowT.kept {w w' : World} {v : Value} {its : List ItV} (h : RowT w v its) (hk : Kept (fun _ => False) w w') : RowT w' v its := by
  rcases h with h | ⟨g, o, c, hv, h1⟩
  · exact .inl h
  · exact .inr ⟨g, o, c, hv, fun i x hx j u hu => hk.cell (h1 i x hx j u hu) (fun f => f)⟩

set_option maxHeartbeats 4000000 in
theorem rdone_w (v : Value) (its : List ItV) (w : World) (hr : RowT w v its) (hm : its.length ≤ 140737488351232) (hok : ∀ x ∈ its, ItW w x) :
    Calls Try.prog 21 #[v] w fun e w' => ∃ (v' : Value) (f : Int) (zs : List Int), e = .returned (.tuple #[v', .int .i64 f]) ∧ w'.ownsRow w.heap.size 5 1 v' zs.length (zs.map (Value.int .u8)) ∧ (∀ z ∈ zs, 0 ≤ z ∧ z ≤ 255) ∧ zs.length ≤ 4194304 ∧ Kept (fun _ => False) w w' := by
  obtain ⟨N, hN⟩ : ∃ N, N = its.length := ⟨_, rfl⟩
  have hsh : ∃ ao c, v = .slice ao N c := by
    rcases hr with ⟨rfl, ao, c, rfl⟩ | ⟨g, o, c, rfl, _⟩
    · exact ⟨ao, c, by rw [hN]; rfl⟩
    · exact ⟨_, c, by rw [hN]⟩
  obtain ⟨ao, c, rfl⟩ := hsh
  rw [← hN] at hm
  have hmI : (N : Int) ≤ 140737488351232 := by omega
  have HN := hid_of hN
  have HR := hid_of hr
  have HOK := hid_of hok
  clear hN hr hok
  go_enter Try.func21, Try.ntmps21
  go_wp2
  go_loopw [4, 5] (fun v i wr => ∃ (k : Nat) (l : List Int), k ≤ N ∧ i = .int .i64 k ∧ wr.ownsRow w.heap.size 5 1 v l.length (l.map (Value.int .u8)) ∧ (∀ z ∈ l, 0 ≤ z ∧ z ≤ 255) ∧ l.length ≤ 4194304 ∧ Kept (fun _ => False) w wr) (fun _ i _ => N - (intOf i).toNat)
  case atStart => exact ⟨0, [], Nat.zero_le _, rfl, World.ownsRow_nil _ _ _ _, fun z hz => by simp at hz, by simp, Kept.refl _ _⟩
  case round =>
    obtain ⟨k, l, hk, rfl, hown, hlb, hll, hkept⟩ := hrel
    obtain ⟨uo, uc, rfl⟩ := ownsRow_shape hown
    have hll' : (l.length : Int) ≤ 4194304 := by omega
    by_cases hlt : k < N
    · have hkl : k < its.length := by rw [← HN.out]; exact hlt
      rcases HR.out with ⟨h0, _⟩ | ⟨g, o, c', hv, hc⟩
      · rw [h0] at hkl; simp at hkl
      · rw [← HN.out] at hv
        cases hv
        have hx := List.getElem?_eq_getElem hkl
        obtain ⟨o3, o4, o5, o6⟩ := HOK.out _ (List.getElem_mem hkl)
        generalize its[k] = x at *
        obtain ⟨xk, xn, bv, xs⟩ := x
        dsimp only at o3 o4 o5 o6
        have r0 := hkept.cell (hc k _ hx 0 (.int .i64 xk) rfl) (fun f => f)
        have r1 := hkept.cell (hc k _ hx 1 (.int .i64 xn) rfl) (fun f => f)
        have r2 := hkept.cell (hc k _ hx 2 bv rfl) (fun f => f)
        rw [Nat.add_zero] at r0
        rw [← Nat.add_assoc] at r1 r2
        have HOWN := hid_of hown
        have HLB := hid_of hlb
        have HKEPT := hid_of hkept
        obtain ⟨bo, bc, rfl⟩ := o5.shape
        clear hown hkept hx hc hkl HR HOK HN hlb
        by_cases hneg : xk = 1 ∧ xn < 0
        · obtain ⟨rfl, hneg⟩ := hneg
          clear o5 o6 r2
          go_wp2
          go_ret2
          exact ⟨_, _, [], rfl, World.ownsRow_nil _ _ _ _, fun z hz => by simp at hz, by simp, HKEPT.out⟩
        · have hnn : xk = 1 → 0 ≤ xn := fun h => by omega
          have hp := hid_of (rput_w xk xn (.slice bo xs.length bc) xs wr o3 o4 hnn (o5.kept HKEPT.out (fun _ _ f => f)) o6.2)
          have hbl := anyBytes_len xk xn xs o4 o3 o6.2
          have HBB := hid_of (anyBytes_byte xk xn xs o4 o3 o6.2 hnn o6.1)
          generalize anyBytes xk xn xs = m at *
          have hblI : (m.length : Int) ≤ 140737488351241 := by omega
          have key : ((xk == 1) = true ∧ decide (xn < 0) = false) ∨ (xk == 1) = false := by
            by_cases h : xk = 1
            · exact .inl ⟨by simp [h], by simp; exact hnn h⟩
            · exact .inr (by simp [h])
          have RND : ∀ (v1 : Value) (w1 : World), w1.ownsRow wr.heap.size 5 1 v1 m.length (m.map (Value.int .u8)) → Kept (fun _ => False) wr w1 → (m.length + l.length ≤ 4194304) → ∃ v2 w2, (Builtin.append_ #[22, 22] 22 #[.slice uo l.length uc, v1]).run Try.prog w1 = .ok v2 w2 ∧ w2.ownsRow w.heap.size 5 1 v2 (l ++ m).length ((l ++ m).map (Value.int .u8)) ∧ Kept (fun _ => False) w w2 := by
            intro v1 w1 ho1 hk1 hf
            obtain ⟨v2, w2, hr, h2, h3⟩ := app_any w1 _ _ _ l 22 _ m (hk1.ownsRow HOWN.out (fun _ _ f => f)) (isB_own ho1) (Nat.le_trans HKEPT.out.size hk1.size) (by omega)
            exact ⟨v2, w2, hr, by rw [List.length_append]; exact h2, (HKEPT.out.trans hk1).grown h3 (fun g hg => .inl (HOWN.out.lt g hg).1)⟩
          have HRND := hid_of RND
          clear RND o5 o6 hneg hnn
          rcases key with ⟨hk1', hk2'⟩ | hk1'
          · go_wp2_with fail
            refine hp.out.mono ?_
            rintro e w1 ⟨v1, rfl, ho1, hkw1⟩
            obtain ⟨vo, vc, rfl⟩ := ownsRow_shape ho1
            have HKS := hid_of (HKEPT.out.trans hkw1)
            by_cases hf : m.length + l.length ≤ 4194304
            · have hfI : (l.length : Int) + (m.length : Int) ≤ 4194304 := by omega
              obtain ⟨v2, w2, hr, h2, h3⟩ := HRND.out _ w1 ho1 hkw1 hf
              have HRR := hid_of hr
              have H2 := hid_of h2
              have H3 := hid_of h3
              clear hp ho1 hkw1 hr h2 h3 HOWN HKEPT HRND r0 r1 r2
              go_wp2_with (at_builtin; refine wp_app rfl (.tmp 38) (.tmp 39) 22 22 rfl _ _ rfl rfl v2 w2 HRR.out ?_)
              go_roundw
              case rel =>
                refine ⟨k + 1, l ++ m, by omega, by go_num, H2.out, fun z hz => ?_, by rw [List.length_append]; omega, H3.out⟩
                rcases List.mem_append.1 hz with h | h
                · exact HLB.out z h
                · exact HBB.out z h
              case measure => simp [intOf]; omega
            · have hfI : 4194304 < (l.length : Int) + (m.length : Int) := by omega
              clear hp ho1 hkw1 HOWN HKEPT HRND r0 r1 r2
              go_wp2
              go_ret2
              exact ⟨_, _, [], rfl, World.ownsRow_nil _ _ _ _, fun z hz => by simp at hz, by simp, HKS.out⟩
          · go_wp2_with fail
            refine hp.out.mono ?_
            rintro e w1 ⟨v1, rfl, ho1, hkw1⟩
            obtain ⟨vo, vc, rfl⟩ := ownsRow_shape ho1
            have HKS := hid_of (HKEPT.out.trans hkw1)
            by_cases hf : m.length + l.length ≤ 4194304
            · have hfI : (l.length : Int) + (m.length : Int) ≤ 4194304 := by omega
              obtain ⟨v2, w2, hr, h2, h3⟩ := HRND.out _ w1 ho1 hkw1 hf
              have HRR := hid_of hr
              have H2 := hid_of h2
              have H3 := hid_of h3
              clear hp ho1 hkw1 hr h2 h3 HOWN HKEPT HRND r0 r1 r2
              go_wp2_with (at_builtin; refine wp_app rfl (.tmp 38) (.tmp 39) 22 22 rfl _ _ rfl rfl v2 w2 HRR.out ?_)
              go_roundw
              case rel =>
                refine ⟨k + 1, l ++ m, by omega, by go_num, H2.out, fun z hz => ?_, by rw [List.length_append]; omega, H3.out⟩
                rcases List.mem_append.1 hz with h | h
                · exact HLB.out z h
                · exact HBB.out z h
              case measure => simp [intOf]; omega
            · have hfI : 4194304 < (l.length : Int) + (m.length : Int) := by omega
              clear hp ho1 hkw1 HOWN HKEPT HRND r0 r1 r2
              go_wp2
              go_ret2
              exact ⟨_, _, [], rfl, World.ownsRow_nil _ _ _ _, fun z hz => by simp at hz, by simp, HKS.out⟩
    · have HO := hid_of hown
      have HK := hid_of hkept
      have HLB := hid_of hlb
      clear hown hkept HOK HR hlb
      go_wp2
      go_ret2
      exact ⟨_, _, l, rfl, HO.out, HLB.out, hll, HK.out⟩

theorem cells63 : Try.prog.cellsOf 63 = 3 := by kernel_rfl
theorem bytes63 : Try.prog.bytesOf 63 = 40 := by kernel_rfl
section
variable {H : Type} {enc : TypeId × Value → H} {W : World}
theorem open_it {fuel : Nat} {cs : List Value} {d : DataW H} {p : List MemPlace} (h : DataW.trod enc Try.prog W 0 (fun _ => true) true fuel 63 cs = some (d, p)) (hbk : Fits 63 d) :
    ∃ x : ItV, cs = x.cells ∧ ItW W x := by
  obtain ⟨y0, y1, y2, n, hx, hl, h0, h1, h2⟩ := trod_struct3 Try.underlying63 h
  rw [cells63] at hl
  match cs, hl with
  | [c0, c1, c2], _ =>
    have g0 : DataW.trod enc Try.prog W 0 (fun _ => true) true n 3 [c0] = some y0 := by simpa [cells3'] using h0
    have g1 : DataW.trod enc Try.prog W 0 (fun _ => true) true n 3 [c1] = some y1 := by simpa [cells3'] using h1
    have g2 : DataW.trod enc Try.prog W 0 (fun _ => true) true n 22 [c2] = some y2 := by simpa [cells22] using h2
    obtain ⟨k, ek, _, wk⟩ := DataW.trod_int Try.underlying3 g0
    obtain ⟨m, em, _, wm⟩ := DataW.trod_int Try.underlying3 g1
    simp only [Prod.mk.injEq] at hx
    have hb3 : Fits 22 y2.1 := fun n hn => by
      have h4 := hx.1
      subst h4
      refine hbk n ?_
      simp only [DataW.weights, Try.underlying63, List.map_cons, List.map_nil, DataW.weightsEach, List.mem_append]
      exact Or.inr (Or.inr (Or.inl hn))
    obtain ⟨xs, q1, q2⟩ := open_dat (d := y2.1) (p := y2.2) g2 hb3
    cases ek
    cases em
    have b1 := bounds_i64 wm
    exact ⟨⟨k, m, c2, xs⟩, rfl, ⟨b1.1, by dsimp only; omega, q1, q2⟩⟩
theorem open_its0 {fuel : Nat} {v : Value} {d : DataW H} {p : List MemPlace} (h : DataW.trod enc Try.prog W 0 (fun _ => true) true fuel 37 [v] = some (d, p)) (hbk : Fits 37 d) :
    ∃ its : List ItV, RowT W v its ∧ (∀ x ∈ its, ItW W x) ∧ its.length ≤ 140737488351232 := by
  rcases open_slice Try.underlying37 h with ⟨hcs, _⟩ | ⟨a, len, cap, m, n, D, Pl, hcs, hb, hl, hm, hm', hx, hel⟩
  · cases hcs
    exact ⟨[], .inl ⟨rfl, none, 0, rfl⟩, fun f hf => by simp at hf, by simp⟩
  · cases hcs
    simp only [if_true] at hm'
    simp only [Prod.mk.injEq] at hx
    obtain ⟨hx1, _⟩ := hx
    have hD : ∀ i, i < len → Fits 63 (D i) := fun i hi n hn => by
      subst hx1
      refine hbk n ?_
      simp only [DataW.weights, Try.underlying37, List.mem_cons, List.mem_append]
      exact Or.inr (Or.inl (weights_all (List.mem_map.2 ⟨i, List.mem_range.2 hi, rfl⟩) n hn))
    have hsz : len * 40 ≤ 140737488351232 := by
      subst hx1
      have hb1 := hbk (((List.range len).map D).length + ((List.range (m - len)).map fun j => D (len + j)).length |>.mul (Try.prog.bytesOf 63)) (by simp [DataW.weights, Try.underlying37])
      rw [bytes63] at hb1
      simp only [List.length_map, List.length_range, reachBytes] at hb1
      have hb2 : (len + (m - len)) * 40 ≤ 140737488351232 := hb1
      omega
    rw [cells63] at hel
    by_cases h0 : len = 0
    · exact ⟨[], .inl ⟨rfl, some a, cap, by rw [h0]⟩, fun f hf => by simp at hf, by simp⟩
    · have hin : Inhabited ItV := ⟨ItV.default⟩
      obtain ⟨F, hF⟩ := choose_lt (n := len) (p := fun i (y : ItV) => W.cells? 0 (a.add (i * 3)) 3 = some y.cells ∧ ItW W y) (fun i hi => by
        obtain ⟨cs', h1, h2⟩ := hel i (by omega)
        obtain ⟨f, rfl, h3⟩ := open_it h2 (hD i hi)
        exact ⟨f, h1, h3⟩)
      have hcell : ∀ i, i < len → ∀ j, j < 3 → W.cell? ((a.add (i * 3)).add j) = (F i).cells[j]? := fun i hi => (World.cells?_some (hF i hi).1).2.2
      obtain ⟨b, off, spot⟩ := a
      have hc0 : W.cell? (((⟨b, off, spot⟩ : Addr).add (0 * 3)).add 0) = some (.int .i64 (F 0).k) := hcell 0 (by omega) 0 (by omega)
      have hspot : spot = none := by simpa [Addr.add] using World.cell?_spot hc0
      subst hspot
      have hlen : ((List.range len).map F).length = len := by simp
      refine ⟨(List.range len).map F, .inr ⟨b, off, cap, by rw [hlen], fun i f hf j u hj => ?_⟩, fun f hf => ?_, by rw [hlen]; omega⟩
      · have hi : i < len := by
          have := (List.getElem?_eq_some_iff.1 hf).1
          simpa using this
        obtain rfl : F i = f := by simpa [hi] using hf
        have hj4 : j < 3 := by
          have := (List.getElem?_eq_some_iff.1 hj).1
          simpa [ItV.cells] using this
        have := hcell i hi j hj4
        rw [Addr.add_lit, Addr.add_lit] at this
        rw [← Nat.add_assoc, this, hj]
      · obtain ⟨i, hi, rfl⟩ := List.mem_map.1 hf
        exact (hF i (List.mem_range.1 hi)).2
theorem open_its {base : Nat} {v : Value} {d : DataW H} {p : List MemPlace} (hval : Value.okWide Try.prog W .any base 37 v) (h0 : DataW.Trod enc Try.prog W 0 (fun _ => true) true 37 v d p) (hbk : Fits 37 d) :
    ∃ its : List ItV, RowT W v its ∧ (∀ x ∈ its, ItW W x) ∧ its.length ≤ 140737488351232 := by
  obtain ⟨a1, len1, cap1, rfl⟩ := okWide_slice Try.underlying37 hval
  obtain ⟨fuel, hf⟩ := h0
  have h : DataW.trod enc Try.prog W 0 (fun _ => true) true fuel 37 [.slice a1 len1 cap1] = some (d, p) := hf
  exact open_its0 h hbk
end
end Go.Proofs.Ytnjhnlohjhdcpaa

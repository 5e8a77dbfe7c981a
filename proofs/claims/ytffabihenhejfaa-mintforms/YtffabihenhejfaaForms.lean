/-
  MintForms: the walk.
-/
import Derived.Test.YtffabihenhejfaaRforms
namespace Go.Proofs.Ytffabihenhejfaa
open Go.ChangeShapes Go.WideShapes Go.ChangeAt Go.RowKit
set_option linter.unusedVariables false

/-- What is wanted: a row of calls. -/
structure Wn (W wr : World) (lv : Value) (its : List ItV) : Prop where
  row : wr.ownsRow W.heap.size 27 3 lv its.length (its.flatMap ItV.cells)
  kd : ∀ i, i < its.length → (1 ≤ (its.getD i ItV.default).k ∧ (its.getD i ItV.default).k ≤ 6 ∧ (its.getD i ItV.default).xs.length ≤ 1000000) ∧ ∃ ao c, (its.getD i ItV.default).bv = .slice ao (its.getD i ItV.default).xs.length c
  kept : Kept (fun _ => False) W wr
  nil : its = [] → lv = .slice none 0 0

theorem Wn.push {W wr w1 w' : World} {lv lv' : Value} {its : List ItV} {k n : Int} {ao : Option Addr} {m c : Nat} {o : Obj} (h : Wn W wr lv its) (hk1 : Kept (fun _ => False) wr w1) (h1 : 1 ≤ k) (h6 : k ≤ 6) (hm : m ≤ 1000000)
    (hown : w'.ownsRow W.heap.size 27 3 lv' (its.length + 1) (its.flatMap ItV.cells ++ [.int .i64 k, .int .i64 n, .slice ao m c])) (hgrow : (w1.alloc o).grownBy w' lv.ownBlock) : Wn W w' lv' (its ++ [⟨k, n, .slice ao m c, List.replicate m 0⟩]) := by
  refine ⟨?_, fun i hi => ?_, ((h.kept.trans hk1).alloc o).grown hgrow (fun g hg => .inl (h.row.lt g hg).1), fun e => absurd e (by simp)⟩
  · rw [List.length_append, List.flatMap_append]
    simpa [ItV.cells] using hown
  · rw [List.length_append] at hi
    rw [getD_snoc its _ i hi]
    by_cases e : i = its.length
    · rw [if_pos e]
      exact ⟨⟨h1, h6, by rw [List.length_replicate]; exact hm⟩, ao, c, by rw [List.length_replicate]⟩
    · rw [if_neg e]; exact h.kd i (by simp at hi; omega)

set_option maxRecDepth 100000 in
set_option maxHeartbeats 1000000 in
theorem forms_walk (bv vl : Value) (bs : List Int) (W : World) (hb : IsB W bv bs) (hbb : ∀ y ∈ bs, 0 ≤ y ∧ y ≤ 255) (hbl : bs.length ≤ maxLen)
    (hl : (∃ ao c, vl = .slice ao 0 c) ∨ ∃ (b o c : Nat) (arg : List ItV), vl = .slice (some ⟨b, o, none⟩) arg.length c ∧ arg.length ≤ maxLen ∧ ArgItems W b o arg ∧ (∀ i, i < arg.length → ArgOk W (arg.getD i ItV.default)) ∧ b < W.heap.size) :
    Calls Try.prog 6 #[bv, vl] W fun e w' => e = .returned (.bool true) ∧ Below W.heap.size W w' := by
  obtain ⟨i0, hi, hz0, hz1, hz2⟩ := info_parts Try.info27
  obtain ⟨bao, bc, hbv⟩ := hb.shape
  obtain ⟨n, hn⟩ : ∃ n, n = bs.length := ⟨_, rfl⟩
  rw [← hn] at hbv hbl
  have HNN := hid_of hn
  have HB := hid_of hb
  have HBB := hid_of hbb
  clear hb hbb hn
  subst hbv
  unfold maxLen at hbl
  by_cases hbig : 4194304 < n
  · have hbI : (4194304 : Int) < (n : Int) := by omega
    obtain ⟨lao, ll, lc, hvl⟩ : ∃ lao ll lc, vl = .slice lao ll lc := by
      rcases hl with ⟨ao, c, h⟩ | ⟨b, o, c, arg, h, _⟩
      · exact ⟨_, _, _, h⟩
      · exact ⟨_, _, _, h⟩
    subst hvl
    clear hl
    go_enter Try.func6, Try.ntmps6
    go_wp2_with fail
    refine (head_any W).mono ?_
    rintro e w1 ⟨rfl, hb1⟩
    have HB1 := hid_of hb1
    clear hb1
    go_wp2
    go_ret
    exact ⟨rfl, HB1.out⟩
  · have hbI : (n : Int) ≤ 4194304 := by omega
    obtain ⟨lao, L, lc, arg, hvl, hL, HARG⟩ : ∃ (lao : Option Addr) (L lc : Nat) (arg : List ItV), vl = .slice lao L lc ∧ L ≤ maxLen ∧ Hid (∀ k, k < L → ∃ b o, lao = some ⟨b, o, none⟩ ∧ W.cell? ⟨b, o + k * 3, none⟩ = some (.int .i64 (arg.getD k ItV.default).k) ∧ W.cell? ⟨b, o + k * 3 + 1, none⟩ = some (.int .i64 (arg.getD k ItV.default).n) ∧ ArgOk W (arg.getD k ItV.default)) := by
      rcases hl with ⟨ao, c, h⟩ | ⟨b, o, c, arg, h, hm, hit, hok, _⟩
      · exact ⟨ao, 0, c, [], h, Nat.zero_le _, fun k hk => absurd hk (by omega)⟩
      · exact ⟨_, _, c, arg, h, hm, fun k hk => ⟨b, o, rfl, (hit k hk).1, (hit k hk).2.1, hok k hk⟩⟩
    subst hvl
    unfold maxLen at hL
    clear hl
    go_enter Try.func6, Try.ntmps6
    go_wp2_with fail
    go_loopw [5, 6] (fun lv i wr => ∃ (k : Nat) (its : List ItV), k ≤ 400 ∧ k ≤ L ∧ i = .int .i64 k ∧ its.length = k ∧ Wn W wr lv its) (fun _ i _ => 400 - (intOf i).toNat)
    case atStart => exact ⟨0, [], by omega, by omega, rfl, rfl, ⟨World.ownsRow_nil _ _ _ _, fun i hi => absurd hi (by simp), Kept.refl _ _, fun _ => rfl⟩⟩
    case round =>
      obtain ⟨k, its, hk4, hkL, rfl, hil, hwn⟩ := hrel
      by_cases hlt : k < L ∧ k < 400
      · obtain ⟨hlt, hlt4⟩ := hlt
        have hltI : (k : Int) < (L : Int) := by omega
        have hlt4I : (k : Int) < 400 := by omega
        obtain ⟨b, o, hlao, q0, q1, hok⟩ := HARG.out k hlt
        subst hlao
        have r0 := hwn.kept.cell q0 (fun f => f)
        have r1 := hwn.kept.cell q1 (fun f => f)
        obtain ⟨a1, a2, a3, a4, _⟩ := hok
        generalize arg.getD k ItV.default = x at *
        obtain ⟨xk, xn, xbv, xs⟩ := x
        dsimp only at r0 r1 a1 a2 a3 a4
        have hr6 := fun w' => round_any xk 6 w' a1 a2 (by decide) (by decide)
        have hr9 := fun w' => round_any xn 9 w' a3 a4 (by decide) (by decide)
        have hm6 : 0 ≤ xk % 6 ∧ xk % 6 < 6 := by omega
        have hm9 : 0 ≤ xn % 9 ∧ xn % 9 < 9 := by omega
        obtain ⟨p, hp⟩ := Int.eq_ofNat_of_zero_le hm6.1
        obtain ⟨m, hm⟩ := Int.eq_ofNat_of_zero_le hm9.1
        rw [hp] at hr6 hm6
        rw [hm] at hr9 hm9
        have mk := fun W' => make_any W' m (by omega)
        have HWN := hid_of hwn
        have HR6 := hid_of hr6
        have HR9 := hid_of hr9
        have hbw : b < wr.heap.size := World.block_lt_of_cell? _ _ r0
        have hil4 : its.length ≤ 400 := by omega
        clear q0 q1 hwn hr6 hr9 hp hm
        by_cases h5 : p = 5
        · subst h5
          have hm9' : m < 9 := by omega
          have HK3 : Hid (Kept (fun _ => False) wr ((wr.alloc (.cells #[.int .i64 6, .int .i64 0, .slice (some ⟨wr.heap.size + 1, 0, none⟩) m m] 27)).alloc (.cells (zer m) 5))) := ((Kept.refl (fun _ => False) wr).alloc _).alloc _
          have HROW := hid_of (HK3.out.ownsRow HWN.out.row (fun _ _ f => f))
          have hws := HWN.out.kept.size
          go_wp2_with fail
          refine (HR6.out _).mono ?_
          rintro e w5 ⟨rfl, hw5⟩
          have hw5s := hw5.symm
          subst hw5s
          go_wp2_with fail
          refine (HR9.out _).mono ?_
          rintro e w5 ⟨rfl, hw5⟩
          have hw5s := hw5.symm
          subst hw5s
          go_wp2_with (at_builtin; refine wpList_append_own_at _ rfl (.tmp 45) (.tmp 47) 22 rfl W.heap.size 27 i0 (.agg #[.int .i64 0, .int .i64 0, .slice none 0 0]) 3 40 Try.underlying22 hi hz0 hz1 hz2 rfl (by decide) _ _ _ rfl (HROW.out.alloc _) ⟨wr.heap.size + 1 + 1, 0, none⟩ 1 1 [.int .i64 6, .int .i64 0, .slice (some ⟨wr.heap.size + 1, 0, none⟩) m m] rfl rfl (by intro j u hj; simpa using cell_three_new ((wr.alloc (.cells #[.int .i64 6, .int .i64 0, .slice (some ⟨wr.heap.size + 1, 0, none⟩) m m] 27)).alloc (.cells (zer m) 5)) _ _ _ 27 j u hj) (by intro u hu; simp at hu; rcases hu with rfl | rfl | rfl <;> rfl) (by unfold maxLen; omega) (by omega) (by simp; omega) ?_)
          intro lv' w6 hown' hgrow hnil hat
          have HP := hid_of (HWN.out.push (k := 6) (n := 0) (ao := some ⟨wr.heap.size + 1, 0, none⟩) (m := m) (c := m) HK3.out (by decide) (by decide) (by omega) (by rw [hil]; exact hown') hgrow)
          clear hown' hgrow hnil hat HROW HK3 HWN HR6 HR9 mk r0 r1
          go_wp2
          go_roundw
          case rel => exact ⟨k + 1, _, by omega, by omega, by go_num, by rw [List.length_append, hil]; rfl, HP.out⟩
          case measure => simp [intOf]; omega
        · have h5n : ((p : Int) == 5) = false := by simp; omega
          have h5I : ¬ ((p : Int) = 5) := by omega
          have hp6 : p < 6 := by omega
          have h6n : (1 + (p : Int) == 6) = false := by simp; omega
          have HK3 : Hid (Kept (fun _ => False) wr (wr.alloc (.cells #[.int .i64 (1 + (p : Int)), .int .i64 0, .slice none 0 0] 27))) := (Kept.refl (fun _ => False) wr).alloc _
          have HROW := hid_of (HK3.out.ownsRow HWN.out.row (fun _ _ f => f))
          have hws := HWN.out.kept.size
          go_wp2_with fail
          refine (HR6.out _).mono ?_
          rintro e w5 ⟨rfl, hw5⟩
          have hw5s := hw5.symm
          subst hw5s
          go_wp2_with (at_builtin; refine wpList_append_own_at _ rfl (.tmp 45) (.tmp 47) 22 rfl W.heap.size 27 i0 (.agg #[.int .i64 0, .int .i64 0, .slice none 0 0]) 3 40 Try.underlying22 hi hz0 hz1 hz2 rfl (by decide) _ _ _ rfl (HROW.out.alloc _) ⟨wr.heap.size + 1, 0, none⟩ 1 1 [.int .i64 (1 + (p : Int)), .int .i64 0, .slice none 0 0] rfl rfl (by intro j u hj; simpa using cell_three_new (wr.alloc (.cells #[.int .i64 (1 + (p : Int)), .int .i64 0, .slice none 0 0] 27)) _ _ _ 27 j u hj) (by intro u hu; simp at hu; rcases hu with rfl | rfl | rfl <;> rfl) (by unfold maxLen; omega) (by omega) (by simp; omega) ?_)
          intro lv' w6 hown' hgrow hnil hat
          have HP := hid_of (HWN.out.push (k := 1 + (p : Int)) (n := 0) (ao := none) (m := 0) (c := 0) HK3.out (by omega) (by omega) (by omega) (by rw [hil]; exact hown') hgrow)
          clear hown' hgrow hnil hat HROW HK3 HWN HR6 HR9 mk r0 r1
          go_wp2
          go_roundw
          case rel => exact ⟨k + 1, _, by omega, by omega, by go_num, by rw [List.length_append, hil]; rfl, HP.out⟩
          case measure => simp [intOf]; omega
      · by_cases hkl : k < L
        · have hkI : (k : Int) < (L : Int) := by omega
          have hk4I : ¬ ((k : Int) < 400) := by omega
          obtain ⟨sao, sc, hsv⟩ := ownsRow_shape hwn.row
          rw [hil] at hsv
          subst hsv
          have HWN := hid_of hwn
          have hws := hwn.kept.size
          clear hwn HARG
          have hkA : Kept (fun _ => False) wr (wr.alloc (.cells #[.slice sao k sc, .slice none 0 0, .slice none 0 0, .pointer none] 64)) := (Kept.refl _ _).alloc _
          have hshA : Sh (wr.alloc (.cells #[.slice sao k sc, .slice none 0 0, .slice none 0 0, .pointer none] 64)) wr.heap.size (.slice sao k sc) (.slice none 0 0) (.slice none 0 0) (.pointer none) := heap_alloc_new wr _
          have hszA : (wr.alloc (.cells #[.slice sao k sc, .slice none 0 0, .slice none 0 0, .pointer none] 64)).heap.size = wr.heap.size + 1 := by simp
          have HKA := hid_of (HWN.out.kept.trans hkA)
          have HKA2 := hid_of hkA
          have HSHA := hid_of hshA
          have HSZA := hid_of hszA
          have HLD := hid_of (lend_any (.slice bao n bc) bs _ (HB.out.kept HKA.out (fun _ _ f => f)) (by rw [← HNN.out]; omega))
          clear hkA hshA hszA
          go_wp2_with fail
          refine HLD.out.mono ?_
          rintro e w5 ⟨rfl, hle, hk5⟩
          rw [HSZA.out] at hle ⊢
          rw [← HNN.out]
          have hk5' : Kept (fun _ => False) wr w5 := HKA2.out.trans hk5
          have h5s := hk5.size
          rw [HSZA.out] at h5s
          have hir : IsR w5 (wr.heap.size + 1) (.slice (some ⟨wr.heap.size + 1, 0, none⟩) n (n + 5)) bs := by
            obtain ⟨cur, l0, l1, l2, l3⟩ := hle
            exact .inr ⟨0, n + 5, by rw [HNN.out], by rw [HNN.out]; omega, by omega, by unfold maxLen; omega, fun i hi => by rw [cell_block _ _ _ _ _ _ l0, Nat.zero_add]; exact l2 i hi⟩
          have h5l : wr.heap.size + 1 < w5.heap.size := by
            obtain ⟨cur, l0, _⟩ := hle
            exact (Array.getElem?_eq_some_iff.1 l0).1
          have HRD := hid_of (read_forms (.slice sao k sc) W.heap.size wr.heap.size (wr.heap.size + 1) _ n (n + 5) its bs w5 (HSHA.out.kept hk5 (fun f => f)) (hk5'.ownsRow HWN.out.row (fun _ _ f => f)) HWN.out.nil HWN.out.kd (by omega) hir HBB.out (by rw [← HNN.out]; omega) h5l (by omega) (fun e => by have := (HWN.out.row.lt _ e).2; omega))
          have HK5 : Hid (Kept (fun _ => False) W w5) := HWN.out.kept.trans hk5'
          have HKD := hid_of hk5'
          clear hle hk5 hk5' hir HLD HSHA HKA HKA2 HSZA
          go_wp2_with fail
          refine HRD.out.mono ?_
          rintro e w6 ⟨hk6, ⟨rfl, tv, told, hfd⟩ | ⟨flt, f0, rfl⟩⟩
          · have HK6 : Hid (Kept (fun _ => False) W w6) := HK5.out.step hk6 (fun q hq e => by omega)
            obtain ⟨lv2, rp, hsh⟩ := hfd.sh
            have c1 := hsh.cells.2.1
            obtain ⟨tao, tc, htv⟩ := ownsRow_shape hfd.row
            rw [hfd.len, hil] at htv
            subst htv
            have hel : (encs told).length ≤ 4194304 := by rw [← hfd.enc, ← HNN.out]; omega
            have HWR := hid_of (written_all _ told w6 hfd.row hfd.good (by rw [hfd.len]; omega) hel hfd.nil)
            have HENC := hid_of hfd.enc
            clear hfd hsh hel hk6 HRD
            go_wp2_with fail
            refine HWR.out.mono ?_
            rintro e w7 ⟨ov, rfl, ho, hk7⟩
            rw [← HENC.out, ← HNN.out] at ho
            obtain ⟨oao, oc, hov⟩ := ownsRow_shape ho
            subst hov
            have HSM := hid_of (same_any (.slice oao n oc) (.slice bao n bc) bs bs w7 (isB_own ho) (HB.out.kept (HK6.out.trans hk7) (fun _ _ f => f)) (by rw [← HNN.out]; unfold maxLen; omega))
            have HK7 := hid_of (HK6.out.trans hk7)
            rw [decide_eq_true rfl] at HSM
            clear ho hk7 HWR c1
            go_wp2_with fail
            refine HSM.out.mono ?_
            rintro e w8 ⟨rfl, d, hw8⟩
            have HK8 : Hid (Kept (fun _ => False) W w8) := by rw [hw8]; exact kept_drewN HK7.out d
            clear hw8 HSM HK7
            go_wp2_with fail
            refine (head_any w8).mono ?_
            rintro e w9 ⟨rfl, hb9⟩
            have HKZ : Hid (Below W.heap.size W w9) := (HK8.out.trans ((kept_of_below hb9).mono (fun q hq e => absurd hq (by omega)))).below (Nat.le_refl _) (fun _ f => f.elim)
            clear hb9
            go_wp2
            go_ret
            exact ⟨rfl, HKZ.out⟩
          · have HK6 : Hid (Kept (fun _ => False) W w6) := HK5.out.step hk6 (fun q hq e => by omega)
            have hf0 : (flt == 0) = false := by simp [f0]
            have hf1 : (flt != 0) = true := by simp [f0]
            clear hk6 HRD
            go_wp2_with fail
            refine (head_any w6).mono ?_
            rintro e w9 ⟨rfl, hb9⟩
            have HKZ : Hid (Below W.heap.size W w9) := (HK6.out.trans ((kept_of_below hb9).mono (fun q hq e => absurd hq (by omega)))).below (Nat.le_refl _) (fun _ f => f.elim)
            clear hb9
            go_wp2
            go_ret
            exact ⟨rfl, HKZ.out⟩
        · have hkI : ¬ ((k : Int) < (L : Int)) := by omega
          obtain ⟨sao, sc, hsv⟩ := ownsRow_shape hwn.row
          rw [hil] at hsv
          subst hsv
          have HWN := hid_of hwn
          have hws := hwn.kept.size
          clear hwn HARG
          have hkA : Kept (fun _ => False) wr (wr.alloc (.cells #[.slice sao k sc, .slice none 0 0, .slice none 0 0, .pointer none] 64)) := (Kept.refl _ _).alloc _
          have hshA : Sh (wr.alloc (.cells #[.slice sao k sc, .slice none 0 0, .slice none 0 0, .pointer none] 64)) wr.heap.size (.slice sao k sc) (.slice none 0 0) (.slice none 0 0) (.pointer none) := heap_alloc_new wr _
          have hszA : (wr.alloc (.cells #[.slice sao k sc, .slice none 0 0, .slice none 0 0, .pointer none] 64)).heap.size = wr.heap.size + 1 := by simp
          have HKA := hid_of (HWN.out.kept.trans hkA)
          have HKA2 := hid_of hkA
          have HSHA := hid_of hshA
          have HSZA := hid_of hszA
          have HLD := hid_of (lend_any (.slice bao n bc) bs _ (HB.out.kept HKA.out (fun _ _ f => f)) (by rw [← HNN.out]; omega))
          clear hkA hshA hszA
          go_wp2_with fail
          refine HLD.out.mono ?_
          rintro e w5 ⟨rfl, hle, hk5⟩
          rw [HSZA.out] at hle ⊢
          rw [← HNN.out]
          have hk5' : Kept (fun _ => False) wr w5 := HKA2.out.trans hk5
          have h5s := hk5.size
          rw [HSZA.out] at h5s
          have hir : IsR w5 (wr.heap.size + 1) (.slice (some ⟨wr.heap.size + 1, 0, none⟩) n (n + 5)) bs := by
            obtain ⟨cur, l0, l1, l2, l3⟩ := hle
            exact .inr ⟨0, n + 5, by rw [HNN.out], by rw [HNN.out]; omega, by omega, by unfold maxLen; omega, fun i hi => by rw [cell_block _ _ _ _ _ _ l0, Nat.zero_add]; exact l2 i hi⟩
          have h5l : wr.heap.size + 1 < w5.heap.size := by
            obtain ⟨cur, l0, _⟩ := hle
            exact (Array.getElem?_eq_some_iff.1 l0).1
          have HRD := hid_of (read_forms (.slice sao k sc) W.heap.size wr.heap.size (wr.heap.size + 1) _ n (n + 5) its bs w5 (HSHA.out.kept hk5 (fun f => f)) (hk5'.ownsRow HWN.out.row (fun _ _ f => f)) HWN.out.nil HWN.out.kd (by omega) hir HBB.out (by rw [← HNN.out]; omega) h5l (by omega) (fun e => by have := (HWN.out.row.lt _ e).2; omega))
          have HK5 : Hid (Kept (fun _ => False) W w5) := HWN.out.kept.trans hk5'
          have HKD := hid_of hk5'
          clear hle hk5 hk5' hir HLD HSHA HKA HKA2 HSZA
          go_wp2_with fail
          refine HRD.out.mono ?_
          rintro e w6 ⟨hk6, ⟨rfl, tv, told, hfd⟩ | ⟨flt, f0, rfl⟩⟩
          · have HK6 : Hid (Kept (fun _ => False) W w6) := HK5.out.step hk6 (fun q hq e => by omega)
            obtain ⟨lv2, rp, hsh⟩ := hfd.sh
            have c1 := hsh.cells.2.1
            obtain ⟨tao, tc, htv⟩ := ownsRow_shape hfd.row
            rw [hfd.len, hil] at htv
            subst htv
            have hel : (encs told).length ≤ 4194304 := by rw [← hfd.enc, ← HNN.out]; omega
            have HWR := hid_of (written_all _ told w6 hfd.row hfd.good (by rw [hfd.len]; omega) hel hfd.nil)
            have HENC := hid_of hfd.enc
            clear hfd hsh hel hk6 HRD
            go_wp2_with fail
            refine HWR.out.mono ?_
            rintro e w7 ⟨ov, rfl, ho, hk7⟩
            rw [← HENC.out, ← HNN.out] at ho
            obtain ⟨oao, oc, hov⟩ := ownsRow_shape ho
            subst hov
            have HSM := hid_of (same_any (.slice oao n oc) (.slice bao n bc) bs bs w7 (isB_own ho) (HB.out.kept (HK6.out.trans hk7) (fun _ _ f => f)) (by rw [← HNN.out]; unfold maxLen; omega))
            have HK7 := hid_of (HK6.out.trans hk7)
            rw [decide_eq_true rfl] at HSM
            clear ho hk7 HWR c1
            go_wp2_with fail
            refine HSM.out.mono ?_
            rintro e w8 ⟨rfl, d, hw8⟩
            have HK8 : Hid (Kept (fun _ => False) W w8) := by rw [hw8]; exact kept_drewN HK7.out d
            clear hw8 HSM HK7
            go_wp2_with fail
            refine (head_any w8).mono ?_
            rintro e w9 ⟨rfl, hb9⟩
            have HKZ : Hid (Below W.heap.size W w9) := (HK8.out.trans ((kept_of_below hb9).mono (fun q hq e => absurd hq (by omega)))).below (Nat.le_refl _) (fun _ f => f.elim)
            clear hb9
            go_wp2
            go_ret
            exact ⟨rfl, HKZ.out⟩
          · have HK6 : Hid (Kept (fun _ => False) W w6) := HK5.out.step hk6 (fun q hq e => by omega)
            have hf0 : (flt == 0) = false := by simp [f0]
            have hf1 : (flt != 0) = true := by simp [f0]
            clear hk6 HRD
            go_wp2_with fail
            refine (head_any w6).mono ?_
            rintro e w9 ⟨rfl, hb9⟩
            have HKZ : Hid (Below W.heap.size W w9) := (HK6.out.trans ((kept_of_below hb9).mono (fun q hq e => absurd hq (by omega)))).below (Nat.le_refl _) (fun _ f => f.elim)
            clear hb9
            go_wp2
            go_ret
            exact ⟨rfl, HKZ.out⟩
end Go.Proofs.Ytffabihenhejfaa

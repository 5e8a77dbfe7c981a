/-
  right, rights, written by contract.
-/
import Derived.Test.YtffabihenhejfaaSheet
namespace Go.Proofs.Ytffabihenhejfaa
open Go.RowKit
set_option linter.unusedVariables false

/-- As it may be put. -/
def ItV.right (x : ItV) : ItV :=
  if isOk x.k x.xs.length = true then
    if x.k = 1 ∧ x.n < 0 then { x with n := -(x.n + 1) } else if x.k = 3 then { x with n := x.n % 2 } else x
  else { k := 2, n := x.n, bv := .slice none 0 0, xs := [] }

theorem i64_and_one (n : Int) (h0 : -9223372036854775808 ≤ n) (h1 : n ≤ 9223372036854775807) : bits .and .i64 n 1 = n % 2 := by
  show IntKind.i64.wrap ((BitVec.ofInt 64 n &&& BitVec.ofInt 64 1).toNat : Int) = _
  have h : (BitVec.ofInt 64 n &&& BitVec.ofInt 64 1).toNat = (n % 2).toNat := by
    rw [BitVec.toNat_and]
    have e1 : (BitVec.ofInt 64 1).toNat = 1 := by decide
    rw [e1, Nat.and_one_is_mod, BitVec.toNat_ofInt]
    omega
  rw [h]
  simp [IntKind.wrap, IntKind.bits, IntKind.signed]
  omega

set_option maxRecDepth 100000 in
set_option maxHeartbeats 1000000 in
theorem right_no (k n : Int) (ao : Option Addr) (len c : Nat) (w : World) (hl : len ≤ maxLen) (ho : isOk k len = false) :
    Calls Try.prog 50 #[.agg #[.int .i64 k, .int .i64 n, .slice ao len c]] w fun e w' => e = .returned (.agg #[.int .i64 2, .int .i64 n, .slice none 0 0]) ∧ Kept (fun _ => False) w w' := by
  have his := fun w' => is_any k n ao len c w' hl
  rw [ho] at his
  have HIS := hid_of his
  clear his ho
  go_enter Try.func50, Try.ntmps50
  go_wp2_with fail
  refine (HIS.out _).mono ?_
  rintro e w1 ⟨rfl, rfl⟩
  go_wp2
  exact bodyPost_ret (v := .agg #[.int .i64 2, .int .i64 n, .slice none 0 0]) (by simp [results, Try.results50, go_sem]) rfl ⟨rfl, (((Kept.refl _ _).alloc _).alloc _).alloc _⟩

set_option maxRecDepth 100000 in
set_option maxHeartbeats 1000000 in
theorem right_yes (k n n' : Int) (ao : Option Addr) (len c : Nat) (w : World) (hl : len ≤ maxLen) (ho : isOk k len = true) (hn0 : -9223372036854775808 ≤ n) (hn1 : n ≤ 9223372036854775807)
    (hn' : n' = if k = 1 ∧ n < 0 then -(n + 1) else if k = 3 then n % 2 else n) :
    Calls Try.prog 50 #[.agg #[.int .i64 k, .int .i64 n, .slice ao len c]] w fun e w' => e = .returned (.agg #[.int .i64 k, .int .i64 n', .slice ao len c]) ∧ Kept (fun _ => False) w w' := by
  have his := fun w' => is_any k n ao len c w' hl
  rw [ho] at his
  have HIS := hid_of his
  have hand := i64_and_one n hn0 hn1
  obtain ⟨p1, p2, p3⟩ := of_decide_eq_true ho
  clear his ho
  have key : (k = 1 ∧ n < 0 ∧ n' = -(n + 1)) ∨ (k = 1 ∧ 0 ≤ n ∧ n' = n) ∨ (k = 3 ∧ n' = n % 2) ∨ ((k == 1) = false ∧ (k == 3) = false ∧ n' = n) := by
    by_cases h1 : k = 1
    · subst h1
      by_cases h2 : n < 0
      · left; rw [if_pos ⟨rfl, h2⟩] at hn'; exact ⟨rfl, h2, hn'⟩
      · right; left; rw [if_neg (by omega), if_neg (by decide)] at hn'; exact ⟨rfl, by omega, hn'⟩
    · rw [if_neg (by omega)] at hn'
      by_cases h3 : k = 3
      · rw [if_pos h3] at hn'; exact .inr (.inr (.inl ⟨h3, hn'⟩))
      · rw [if_neg h3] at hn'; exact .inr (.inr (.inr ⟨by simp [h1], by simp [h3], hn'⟩))
  clear hn' p1 p2 p3
  rcases key with ⟨rfl, h2, rfl⟩ | ⟨rfl, h2, rfl⟩ | ⟨rfl, rfl⟩ | ⟨h1, h3, rfl⟩
  · clear hand
    go_enter Try.func50, Try.ntmps50
    go_wp2_with fail
    refine (HIS.out _).mono ?_
    rintro e w1 ⟨rfl, rfl⟩
    go_wp2
    exact bodyPost_ret (v := .agg #[.int .i64 1, .int .i64 (-(n + 1)), .slice ao len c]) (by simp [results, Try.results50, go_sem]) rfl ⟨rfl, (((Kept.refl _ _).alloc _).alloc _).alloc _⟩
  · clear hand
    go_enter Try.func50, Try.ntmps50
    go_wp2_with fail
    refine (HIS.out _).mono ?_
    rintro e w1 ⟨rfl, rfl⟩
    go_wp2
    exact bodyPost_ret (v := .agg #[.int .i64 1, .int .i64 n', .slice ao len c]) (by simp [results, Try.results50, go_sem]) rfl ⟨rfl, (((Kept.refl _ _).alloc _).alloc _).alloc _⟩
  · go_enter Try.func50, Try.ntmps50
    go_wp2_with fail
    refine (HIS.out _).mono ?_
    rintro e w1 ⟨rfl, rfl⟩
    go_wp2
    exact bodyPost_ret (v := .agg #[.int .i64 3, .int .i64 (n % 2), .slice ao len c]) (by simp [results, Try.results50, go_sem]) rfl ⟨rfl, (((Kept.refl _ _).alloc _).alloc _).alloc _⟩
  · clear hand
    go_enter Try.func50, Try.ntmps50
    go_wp2_with fail
    refine (HIS.out _).mono ?_
    rintro e w1 ⟨rfl, rfl⟩
    go_wp2
    exact bodyPost_ret (v := .agg #[.int .i64 k, .int .i64 n', .slice ao len c]) (by simp [results, Try.results50, go_sem]) rfl ⟨rfl, (((Kept.refl _ _).alloc _).alloc _).alloc _⟩

/-- An item, righted. -/
theorem right_any (x : ItV) (w : World) (hx : ArgOk w x) : Calls Try.prog 50 #[.agg #[.int .i64 x.k, .int .i64 x.n, x.bv]] w fun e w' => e = .returned (.agg #[.int .i64 x.right.k, .int .i64 x.right.n, x.right.bv]) ∧ Kept (fun _ => False) w w' := by
  obtain ⟨k, n, bv, xs⟩ := x
  obtain ⟨h1, h2, h3, h4, h5, h6, h7⟩ := hx
  dsimp only at h1 h2 h3 h4 h5 h6 h7
  obtain ⟨ao, c, rfl⟩ := h5.shape
  cases ho : isOk k xs.length with
  | false =>
    have e : ItV.right ⟨k, n, .slice ao xs.length c, xs⟩ = ⟨2, n, .slice none 0 0, []⟩ := by simp [ItV.right, ho]
    rw [e]
    exact right_no k n ao xs.length c w h7 ho
  | true =>
    have e : ItV.right ⟨k, n, .slice ao xs.length c, xs⟩ = ⟨k, if k = 1 ∧ n < 0 then -(n + 1) else if k = 3 then n % 2 else n, .slice ao xs.length c, xs⟩ := by
      simp only [ItV.right, ho, if_true]
      split
      · rfl
      · split <;> rfl
    rw [e]
    exact right_yes k n _ ao xs.length c w h7 ho h3 h4 rfl

theorem right_good (w : World) (x : ItV) (hx : ArgOk w x) : Good x.right ∧ IsB w x.right.bv x.right.xs := by
  obtain ⟨k, n, bv, xs⟩ := x
  obtain ⟨h1, h2, h3, h4, h5, h6, h7⟩ := hx
  dsimp only at h1 h2 h3 h4 h5 h6 h7
  cases ho : isOk k xs.length with
  | false =>
    have e : ItV.right ⟨k, n, bv, xs⟩ = ⟨2, n, .slice none 0 0, []⟩ := by simp [ItV.right, ho]
    rw [e]
    exact ⟨⟨by simp, by simp, h3, by simp only; omega, by simp, by simp, fun y hy => (by cases hy), by simp⟩, .inl ⟨rfl, _, _, rfl⟩⟩
  | true =>
    have e : ItV.right ⟨k, n, bv, xs⟩ = ⟨k, if k = 1 ∧ n < 0 then -(n + 1) else if k = 3 then n % 2 else n, bv, xs⟩ := by
      simp only [ItV.right, ho, if_true]
      split
      · rfl
      · split <;> rfl
    rw [e]
    obtain ⟨p1, p2, p3⟩ := of_decide_eq_true ho
    refine ⟨⟨p1, p2, ?_, ?_, ?_, ?_, h6, p3⟩, h5⟩
    · dsimp only; split; · omega
      split <;> omega
    · dsimp only; split; · omega
      split <;> omega
    · intro hk; dsimp only at hk ⊢; split; · omega
      split <;> omega
    · intro hk; dsimp only at hk ⊢; rw [if_neg (by omega), if_pos hk]; omega

/-- A row of items of one's own: all may be put; their bytes lie in memory that was there. -/
structure Goods (W wr : World) (B : Nat) (v : Value) (its : List ItV) : Prop where
  row : wr.ownsRow B 27 3 v its.length (its.flatMap ItV.cells)
  good : ∀ i, i < its.length → Good (its.getD i ItV.default) ∧ IsB W (its.getD i ItV.default).bv (its.getD i ItV.default).xs

set_option maxRecDepth 100000 in
set_option maxHeartbeats 4000000 in
theorem rights_walk (b o c many most : Nat) (arg : List ItV) (N : Nat) (W : World) (hN : arg.length = N) (hm : N ≤ maxLen) (hit : ArgItems W b o arg) (hok : ∀ i, i < N → ArgOk W (arg.getD i ItV.default)) (hb : 0 < N → b < W.heap.size) (hmany : many ≤ 400) (hmost : most ≤ 8192) :
    Calls Try.prog 21 #[.slice (some ⟨b, o, none⟩) N c, .int .i64 many, .int .i64 most] W fun e w' => ∃ v its, e = .returned v ∧ Goods W w' W.heap.size v its ∧ its.length ≤ many ∧ (∀ i, i < its.length → (its.getD i ItV.default).xs.length ≤ most) ∧ Kept (fun _ => False) W w' ∧ (its = [] → v = .slice none 0 0) := by
  obtain ⟨i0, hi, hz0, hz1, hz2⟩ := info_parts Try.info27
  unfold maxLen at hm
  have HN := hid_of hN
  have HIT := hid_of hit
  have HOK := hid_of hok
  have HBS := hid_of hb
  clear hN hit hok hb
  go_enter Try.func21, Try.ntmps21
  go_wp2
  go_loopw [7, 8] (fun nv i wr => ∃ (k : Nat) (its : List ItV), k ≤ N ∧ k ≤ many ∧ its.length ≤ k ∧ i = .int .i64 k ∧ Goods W wr W.heap.size nv its ∧ (∀ i, i < its.length → (its.getD i ItV.default).xs.length ≤ most) ∧ Kept (fun _ => False) W wr ∧ (its = [] → nv = .slice none 0 0)) (fun _ i _ => many - (intOf i).toNat)
  case atStart => exact ⟨0, [], Nat.zero_le _, Nat.zero_le _, by simp, rfl, ⟨World.ownsRow_nil _ _ _ _, fun i hi => absurd hi (by simp)⟩, fun i hi => absurd hi (by simp), Kept.refl _ _, fun _ => rfl⟩
  case round =>
    obtain ⟨k, its, hkN, hk4, hil, rfl, hgs, hmo, hkp, hnil0⟩ := hrel
    have HNIL := hid_of hnil0
    clear hnil0
    by_cases hlt : k < N ∧ k < many
    · obtain ⟨hlt, hlt4⟩ := hlt
      have hltI : (k : Int) < (N : Int) := by omega
      have hltI4 : (k : Int) < (many : Int) := by omega
      obtain ⟨q0, q1, q2⟩ := HIT.out k (by rw [HN.out]; exact hlt)
      have hax := HOK.out k hlt
      generalize arg.getD k ItV.default = x at *
      have hbs := HBS.out (by omega)
      have r0 := hkp.cell q0 (fun f => f)
      have r1 := hkp.cell q1 (fun f => f)
      have r2 := hkp.cell q2 (fun f => f)
      obtain ⟨rg1, rg2⟩ := right_good W x hax
      have hax' : ArgOk wr x := by
        obtain ⟨a1, a2, a3, a4, a5, a6, a7⟩ := hax
        exact ⟨a1, a2, a3, a4, a5.kept hkp (fun _ _ f => f), a6, a7⟩
      have hrt := right_any x wr hax'
      obtain ⟨ao, bc, hbv⟩ := hax.2.2.2.2.1.shape
      obtain ⟨ao2, bc2, hbv2⟩ := rg2.shape
      have hxl := rg1.2.2.2.2.2.2.2
      have HRT := hid_of hrt
      have HG1 := hid_of rg1
      have HG2 := hid_of rg2
      have HGS := hid_of hgs
      have HMO := hid_of hmo
      have HKP := hid_of hkp
      generalize x.right = y at *
      obtain ⟨xk, xn, xbv, xxs⟩ := x
      obtain ⟨yk, yn, ybv, yxs⟩ := y
      dsimp only at r0 r1 r2 hbv hbv2 hxl HRT
      subst hbv hbv2
      clear q0 q1 q2 hax hax' hrt rg1 rg2 hgs hmo hkp HIT HOK
      go_wp2_with fail
      refine HRT.out.mono ?_
      rintro e w1 ⟨rfl, hk1⟩
      have HK1 := hid_of (HKP.out.trans hk1)
      have HROW := hid_of (hk1.ownsRow HGS.out.row (fun _ _ f => f))
      clear HRT hk1 r0 r1 r2
      have hws := HK1.out.size
      by_cases hlen : (yxs.length : Int) ≤ (most : Int)
      · go_wp2_with (at_builtin; refine wpList_append_own_at _ rfl (.tmp 31) (.tmp 33) 22 rfl W.heap.size 27 i0 (.agg #[.int .i64 0, .int .i64 0, .slice none 0 0]) 3 40 Try.underlying22 hi hz0 hz1 hz2 rfl (by decide) _ _ _ rfl ((HROW.out.alloc _).alloc _) ⟨w1.heap.size + 1, 0, none⟩ 1 1 [.int .i64 yk, .int .i64 yn, .slice ao2 yxs.length bc2] rfl rfl (by intro j u hj; simpa using cell_three_new (w1.alloc (.cells #[.int .i64 yk, .int .i64 yn, .slice ao2 yxs.length bc2] 27)) _ _ _ 27 j u hj) (by intro u hu; simp at hu; rcases hu with rfl | rfl | rfl <;> rfl) (by unfold maxLen; omega) (by omega) (by simp; omega) ?_)
        intro nv' w6 hown' hgrow hnil hat
        have HGS' : Hid (Goods W w6 W.heap.size nv' (its ++ [⟨yk, yn, .slice ao2 yxs.length bc2, yxs⟩])) := by
          refine ⟨?_, fun i hi => ?_⟩
          · rw [List.length_append, List.flatMap_append]
            simpa [ItV.cells] using hown'
          · rw [List.length_append] at hi
            rw [getD_snoc its _ i hi]
            by_cases e : i = its.length
            · rw [if_pos e]; exact ⟨HG1.out, HG2.out⟩
            · rw [if_neg e]; exact HGS.out.good i (by simp at hi; omega)
        have HMO' : Hid (∀ i, i < (its ++ [⟨yk, yn, .slice ao2 yxs.length bc2, yxs⟩] : List ItV).length → ((its ++ [⟨yk, yn, .slice ao2 yxs.length bc2, yxs⟩] : List ItV).getD i ItV.default).xs.length ≤ most) := by
          intro i hi
          rw [List.length_append] at hi
          rw [getD_snoc its _ i hi]
          by_cases e : i = its.length
          · rw [if_pos e]; dsimp only; omega
          · rw [if_neg e]; exact HMO.out i (by simp at hi; omega)
        have HK6 : Hid (Kept (fun _ => False) W w6) := ((HK1.out.alloc _).alloc _).grown hgrow (fun q hq => .inl (by have := (HROW.out.lt q hq).1; omega))
        clear hown' hgrow hnil hat HROW HGS HMO HG1 HG2 HK1 HKP
        go_wp2
        go_roundw
        case rel => exact ⟨k + 1, its ++ [⟨yk, yn, .slice ao2 yxs.length bc2, yxs⟩], by omega, by omega, by rw [List.length_append]; simp; omega, by go_num, HGS'.out, HMO'.out, HK6.out, fun h => absurd h (by simp)⟩
        case measure => simp [intOf]; omega
      · have HGS' : Hid (∀ o, Goods W (w1.alloc o) W.heap.size u7 its) := fun o => ⟨HROW.out.alloc o, HGS.out.good⟩
        have HK6 : Hid (∀ o, Kept (fun _ => False) W (w1.alloc o)) := fun o => HK1.out.alloc o
        clear HROW HGS HG1 HG2 HK1 HKP
        go_wp2
        go_roundw
        case rel => exact ⟨k + 1, its, by omega, by omega, by omega, by go_num, HGS'.out _, HMO.out, HK6.out _, HNIL.out⟩
        case measure => simp [intOf]; omega
    · have key : (¬ (k : Int) < (N : Int)) ∨ ((k : Int) < (N : Int) ∧ decide ((k : Int) < (many : Int)) = false) := by simp; omega
      have HGS := hid_of hgs
      have HMO := hid_of hmo
      have HKP := hid_of hkp
      clear hgs hmo hkp HIT HOK
      rcases key with hl1 | ⟨hl1, hl2⟩
      all_goals
        go_wp2
        go_ret
        first | exact ⟨_, rfl, its, HGS.out, by omega, HMO.out, HKP.out, HNIL.out⟩ | exact ⟨_, its, rfl, HGS.out, by omega, HMO.out, HKP.out, HNIL.out⟩
end Go.Proofs.Ytffabihenhejfaa

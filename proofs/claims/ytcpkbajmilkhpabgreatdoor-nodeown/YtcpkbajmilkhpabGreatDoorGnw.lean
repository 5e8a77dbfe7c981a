/-
  NodeOwn: the walk.
-/
import Derived.Test.YtcpkbajmilkhpabGreatDoorGmo
namespace Go.Proofs.YtcpkbajmilkhpabGreatDoor
open Go.ChangeShapes Go.WideShapes Go.ChangeAt Go.RowKit Go.Deep
set_option linter.unusedVariables false
set_option linter.unusedSimpArgs false
set_option maxRecDepth 100000

theorem rlAt_four (a b c d : RL) {i : Nat} (h : i < [a, b, c, d].length) : i = 0 ∧ rlAt [a, b, c, d] i = a ∨ i = 1 ∧ rlAt [a, b, c, d] i = b ∨ i = 2 ∧ rlAt [a, b, c, d] i = c ∨ i = 3 ∧ rlAt [a, b, c, d] i = d := by
  match i, h with
  | 0, _ => exact .inl ⟨rfl, rfl⟩
  | 1, _ => exact .inr (.inl ⟨rfl, rfl⟩)
  | 2, _ => exact .inr (.inr (.inl ⟨rfl, rfl⟩))
  | 3, _ => exact .inr (.inr (.inr ⟨rfl, rfl⟩))
/-- Rows in blocks that came one behind another. -/
structure Chain (B0 B1 B2 B3 : Nat) (a b c d : RL) : Prop where
  a : ∀ q, a.v.ownBlock = some q → B0 ≤ q ∧ q < B1
  b : ∀ q, b.v.ownBlock = some q → B1 ≤ q ∧ q < B2
  c : ∀ q, c.v.ownBlock = some q → B2 ≤ q ∧ q < B3
  d : ∀ q, d.v.ownBlock = some q → B3 ≤ q
  m : B0 ≤ B1 ∧ B1 ≤ B2 ∧ B2 ≤ B3
theorem Chain.low {B0 B1 B2 B3 : Nat} {a b c d : RL} (h : Chain B0 B1 B2 B3 a b c d) {i : Nat} (hi : i < [a, b, c, d].length) {q : Nat} (hq : (rlAt [a, b, c, d] i).v.ownBlock = some q) : B0 ≤ q := by
  have m := h.m
  rcases rlAt_four a b c d hi with ⟨_, e⟩ | ⟨_, e⟩ | ⟨_, e⟩ | ⟨_, e⟩ <;> rw [e] at hq
  · exact (h.a q hq).1
  · have := (h.b q hq).1; omega
  · have := (h.c q hq).1; omega
  · have := h.d q hq; omega
theorem OwnI.pushR4 {w W W' : World} {bv rv rv' : Value} {bs rs : List RL} {a b c d : RL} {B0 B1 B2 B3 : Nat} (h : OwnI w W bv rv bs rs) (ha : W.ownsRow 0 41 34 a.v a.n a.xs) (hb : W.ownsRow 0 41 34 b.v b.n b.xs) (hc : W.ownsRow 0 41 34 c.v c.n c.xs) (hd : W.ownsRow 0 41 34 d.v d.n d.xs)
    (hch : Chain B0 B1 B2 B3 a b c d) (hB : ∀ q, Blk rs q → q < B0) (hB0 : w.heap.size ≤ B0) (hna : a.n ≤ 4194304) (hnb : b.n ≤ 4194304) (hnc : c.n ≤ 4194304) (hnd : d.n ≤ 4194304)
    (hown : W'.ownsRow 0 22 1 rv' (rs.length + 4) (rs.map RL.v ++ [a.v, b.v, c.v, d.v])) (hk : Kept (fun q => rv.ownBlock = some q) W W') (hat : rv'.ownBlock = rv.ownBlock ∨ ∀ q, rv'.ownBlock = some q → W.heap.size ≤ q) : OwnI w W' bv rv' bs (rs ++ [a, b, c, d]) := by
  have hall : ∀ i, i < [a, b, c, d].length → W.ownsRow 0 41 34 (rlAt [a, b, c, d] i).v (rlAt [a, b, c, d] i).n (rlAt [a, b, c, d] i).xs := fun i hi => by
    rcases rlAt_four a b c d hi with ⟨_, e⟩ | ⟨_, e⟩ | ⟨_, e⟩ | ⟨_, e⟩ <;> rw [e] <;> assumption
  refine ⟨h.kept.step hk (fun q hq e => by have := h.rn q e; omega), h.b.kept hk (fun q hq e => own_apart h.r.row h.b.row (by decide) e hq) (fun q ⟨i, hi, hq⟩ e => own_apart h.r.row (h.b.own i hi) (by decide) e hq),
    h.r.push (bs := [a, b, c, d]) hall (fun i j hij hj q hi' hj' => ?_) (fun i hi q hq e => ?_) (fun i hi q hq => own_apart (hall i hi) h.r.row (by decide) hq) hown hk hat,
    h.bn, fun q hq => ?_, h.bb, fun q ⟨i, hi, hq⟩ => ?_, h.bl, fun i hi => ?_, h.b0, fun e => by simp at e⟩
  · have m := hch.m
    have hj4 : j < 4 := hj
    rcases rlAt_four a b c d (i := i) (show i < 4 by omega) with ⟨h1, e⟩ | ⟨h1, e⟩ | ⟨h1, e⟩ | ⟨h1, e⟩ <;> rcases rlAt_four a b c d hj with ⟨h2, e2⟩ | ⟨h2, e2⟩ | ⟨h2, e2⟩ | ⟨h2, e2⟩ <;> rw [e] at hi' <;> rw [e2] at hj' <;> first
      | omega
      | (have A := hch.a q hi'; first | (have := hch.b q hj'; omega) | (have := hch.c q hj'; omega) | (have := hch.d q hj'; omega))
      | (have A := hch.b q hi'; first | (have := hch.c q hj'; omega) | (have := hch.d q hj'; omega))
      | (have A := hch.c q hi'; have := hch.d q hj'; omega)
  · have h1 := hB q hq
    have h2 := hch.low hi e
    omega
  · rcases hat with e | e
    · rw [e] at hq; exact h.rn q hq
    · have := e q hq; have := h.kept.size; omega
  · rw [rlAt_app] at hq
    by_cases hl : i < rs.length
    · rw [if_pos hl] at hq; exact h.rb q ⟨i, hl, hq⟩
    · rw [if_neg hl] at hq
      rw [List.length_append] at hi
      have := hch.low (i := i - rs.length) (show i - rs.length < 4 by simp at hi; omega) hq
      omega
  · rw [rlAt_app]
    by_cases hl : i < rs.length
    · rw [if_pos hl]; exact h.rl i hl
    · rw [if_neg hl]
      rw [List.length_append] at hi
      rcases rlAt_four a b c d (i := i - rs.length) (show i - rs.length < 4 by simp at hi; omega) with ⟨_, e⟩ | ⟨_, e⟩ | ⟨_, e⟩ | ⟨_, e⟩ <;> rw [e] <;> assumption
theorem cell_two_new (w : World) (a b : Value) (t : TypeId) : ∀ j u, [a, b][j]? = some u → (w.alloc (.cells #[a, b] t)).cell? ((⟨w.heap.size, 0, none⟩ : Addr).add j) = some u := cell_row_new w [a, b] t
theorem cell_four_new (w : World) (a b c d : Value) (t : TypeId) : ∀ j u, [a, b, c, d][j]? = some u → (w.alloc (.cells #[a, b, c, d] t)).cell? ((⟨w.heap.size, 0, none⟩ : Addr).add j) = some u := cell_row_new w [a, b, c, d] t
/-- Where a list that is handed in lies. -/
def Lies (v : Value) (n : Nat) : Prop := v = .slice none 0 0 ∧ n = 0 ∨ ∃ g o c, v = .slice (some ⟨g, o, none⟩) n c ∧ n ≤ c ∧ c ≤ 9223372036854775807
theorem Lies.cap {ao : Option Addr} {n c : Nat} (h : Lies (.slice ao n c) n) : n ≤ c ∧ c ≤ 9223372036854775807 := by
  rcases h with ⟨e, _⟩ | ⟨g, o, c', e, h⟩
  · cases e; exact ⟨Nat.le_refl _, by omega⟩
  · cases e; exact h
section
variable {us : List EV} {W : World} {ao : Option Addr} {n c : Nat}
theorem enc_arg (hn : n = us.length) (ho : ∀ y ∈ us, y.Ok) (h : RowE W (.slice ao n c) us) (hlt : ∀ g, (Value.slice ao n c).ownBlock = some g → g < W.heap.size) : Calls Tryz.prog 6 #[.slice ao n c] W (EncR nameP us W) := by
  subst hn
  exact encode_any nameP nameC _ us W h hlt (fun y hy => (ho y hy).fr) nameP_len (fun y hy => (ho y hy).nm) (fun y hy => (ho y hy).k)
theorem encr_arg (hn : n = us.length) (ho : ∀ y ∈ us, y.Ok) (h : RowE W (.slice ao n c) us) (hl : Lies (.slice ao n c) n) : Calls Tryz.prog 7 #[.slice ao n c] W (EncR nameP us W) := by
  subst hn
  exact encode_ref nameP nameRC nameP_nil nameP_len _ c us W h hl.cap.1 hl.cap.2 (fun y hy => (ho y hy).fr) (fun y hy => (ho y hy).frb) (fun y hy => ⟨(ho y hy).nm, (ho y hy).nl⟩) (fun y hy => (ho y hy).k)
theorem with_arg (hn : n = us.length) (ho : ∀ y ∈ us, y.Ok) (hck : checkD nameP us = 0) (h : RowE W (.slice ao n c) us) (hl : Lies (.slice ao n c) n) (k : Int) : Calls Tryz.prog 11 #[.slice ao n c, .agg (ownE k).cells.toArray] W fun e w' => RowOut W (withL (ownE k) false us) e w' := by
  obtain ⟨h1, h2, h3⟩ := good_all hck
  rcases hl with ⟨e, h0⟩ | ⟨g, o, c', e, h4, h5⟩
  · cases e
    have : us = [] := List.length_eq_zero_iff.1 hn.symm
    subst this
    exact with_nil (ownE k) W (ownE_fr k) (ownE_size k)
  · cases e
    subst hn
    exact with_some g o c us (ownE k) W h (fun y hy => (ho y hy).fr.1) (fun y hy => by have := h3 y hy; rw [str_size]; omega) (by omega) h4 h5 h2 (ownE_fr k) (ownE_size k)
theorem withr_arg (hn : n = us.length) (ho : ∀ y ∈ us, y.Ok) (hck : checkD nameP us = 0) (h : RowE W (.slice ao n c) us) (k : Int) : Calls Tryz.prog 14 #[.slice ao n c, .agg (ownE k).cells.toArray] W fun e w' => RowOut W (withL (ownE k) false us) e w' := by
  obtain ⟨h1, h2, h3⟩ := good_all hck
  subst hn
  exact with_ref ao c us (ownE k) W h (fun y hy => (ho y hy).fr.1) (fun y hy => ⟨(ho y hy).nm, by have := h3 y hy; omega⟩) (by omega) (ownE_fr k) (ownE_nm k) (by rw [ownE_len]; omega)
theorem without_arg (hn : n = us.length) (ho : ∀ y ∈ us, y.Ok) (hck : checkD nameP us = 0) (h : RowE W (.slice ao n c) us) (hl : Lies (.slice ao n c) n) (s : List Int) : Calls Tryz.prog 10 #[.slice ao n c, .string (str s)] W fun e w' => RowOut W (withoutL us s) e w' := by
  obtain ⟨h1, h2, h3⟩ := good_all hck
  subst hn
  exact without_any ao c us s W h (fun y hy => (ho y hy).fr.1) (fun y hy => by have := h3 y hy; rw [str_size]; omega) (by omega) h2 hl.cap.1 hl.cap.2
theorem withoutr_arg (hn : n = us.length) (ho : ∀ y ∈ us, y.Ok) (hck : checkD nameP us = 0) (h : RowE W (.slice ao n c) us) (s : List Int) : Calls Tryz.prog 13 #[.slice ao n c, .string (str s)] W fun e w' => RowOut W (withoutL us s) e w' := by
  obtain ⟨h1, h2, h3⟩ := good_all hck
  subst hn
  exact without_ref ao c us s W h (fun y hy => (ho y hy).fr.1) (by omega)
theorem dec_arg {g : Nat} {bao : Option Addr} {wl bc : Nat} (ho : ∀ y ∈ us, y.Ok) (hck : checkD nameP us = 0) (hw : wl = (encB us).length) (hx : IsR W g (.slice bao wl bc) (encB us)) (hgl : g < W.heap.size) :
    Calls Tryz.prog 9 #[.slice bao wl bc] W fun e w' => (∃ v', e = .returned (.tuple #[v', .int .i64 0]) ∧ w'.ownsRow W.heap.size 41 34 v' us.length (ents us)) ∧ Kept (fun _ => False) W w' := by
  obtain ⟨h1, h2, h3, h4⟩ := right_enc ho hck
  subst hw
  refine (decode_x nameP nameC g bao bc (encB us) W hx hgl h2).mono ?_
  rintro e w' ⟨hk, h⟩
  have h5 := h4 []
  rw [List.append_nil] at h5
  rw [if_neg (by omega), h5] at h
  dsimp only at h
  rw [if_neg (by simp)] at h
  exact ⟨h, hk⟩
end

set_option maxHeartbeats 32000000 in
theorem own_walk (lo mo : Option Addr) (lc mc : Nat) (ys zs : List EV) (s : List Int) (w : World) (hl : RowE w (.slice lo ys.length lc) ys) (hm : RowE w (.slice mo zs.length mc) zs) (hyo : ∀ y ∈ ys, y.Ok) (hzo : ∀ z ∈ zs, z.Ok) (hll : Lies (.slice lo ys.length lc) ys.length) (hml : Lies (.slice mo zs.length mc) zs.length)
    (hlt : ∀ q, (Value.slice lo ys.length lc).ownBlock = some q → q < w.heap.size) (hmt : ∀ q, (Value.slice mo zs.length mc).ownBlock = some q → q < w.heap.size) :
    Calls Tryz.prog 3 #[.slice lo ys.length lc, .slice mo zs.length mc, .string (str s)] w fun e w' => e = .returned (.bool true) ∧ Kept (fun _ => False) w w' := by
  obtain ⟨i26, hi26, z260, z261, z262⟩ := info_parts Tryz.info27
  obtain ⟨i22, hi22, z220, z221, z222⟩ := info_parts Tryz.info22'
  obtain ⟨nl, hnl⟩ : ∃ n, n = ys.length := ⟨_, rfl⟩
  obtain ⟨nm, hnm⟩ : ∃ n, n = zs.length := ⟨_, rfl⟩
  have HNL := hid_of hnl
  have HNM := hid_of hnm
  have hcl := fun W (hk : Kept (fun _ => False) w W) => check_ref nameP nameRC nameP_nil lo lc ys W (hl.kept hk (fun _ _ f => f)) hll.cap.1 hll.cap.2 (fun y hy => (hyo y hy).fr.1) (fun y hy => ⟨(hyo y hy).nm, (hyo y hy).nl⟩)
  have hcm := fun W (hk : Kept (fun _ => False) w W) => check_ref nameP nameRC nameP_nil mo mc zs W (hm.kept hk (fun _ _ f => f)) hml.cap.1 hml.cap.2 (fun y hy => (hzo y hy).fr.1) (fun y hy => ⟨(hzo y hy).nm, (hzo y hy).nl⟩)
  rw [← hnl] at hl hll hlt hcl
  rw [← hnm] at hm hml hmt hcm
  have HCL := hid_of hcl
  have HCM := hid_of hcm
  have HL := hid_of hl
  have HM := hid_of hm
  have HYO := hid_of hyo
  have HZO := hid_of hzo
  have HLL := hid_of hll
  have HML := hid_of hml
  have HLT := hid_of hlt
  have HMT := hid_of hmt
  clear hl hm hyo hzo hll hml hlt hmt hcl hcm
  rw [← hnl, ← hnm]
  clear hnl hnm
  obtain ⟨e1, he1⟩ : ∃ e, e = checkD nameP ys := ⟨_, rfl⟩
  obtain ⟨e2, he2⟩ : ∃ e, e = checkD nameP zs := ⟨_, rfl⟩
  have HE1 := hid_of he1
  have HE2 := hid_of he2
  rw [← he1] at HCL
  rw [← he2] at HCM
  clear he1 he2
  go_enter Tryz.func3, Tryz.ntmps3
  go_wp2_with fail
  refine (known_any w).mono ?_
  rintro e w0 ⟨rfl, hk0⟩
  have HK0 := hid_of hk0
  clear hk0
  go_wp2_with fail
  refine (HCL.out _ HK0.out).mono ?_
  rintro e w1' ⟨rfl, hk0⟩
  have HK1' := hid_of (HK0.out.trans hk0)
  clear hk0 HCL HK0
  by_cases h1 : e1 = 0
  · subst h1
    go_wp2_with fail
    refine (HCM.out _ HK1'.out).mono ?_
    rintro e w1 ⟨rfl, hk0⟩
    have HK1 := hid_of (HK1'.out.trans hk0)
    clear hk0 HCM HK1'
    by_cases h2 : e2 = 0
    · subst h2
      go_wp2_with fail
      go_loopw [7, 8, 9] (fun bv rv t wr => ∃ (k : Nat) (bs rs : List RL), k ≤ 2 ∧ t = .int .i64 k ∧ Hid (bs.length ≤ 4 * k) ∧ Hid (rs.length ≤ 8 * k) ∧ OwnI w1 wr bv rv bs rs) (fun _ _ t _ => 2 - (intOf t).toNat)
      case atStart => exact ⟨0, [], [], by omega, rfl, Nat.le_refl _, Nat.le_refl _, OwnI.start w1⟩
      case round =>
        obtain ⟨k, bs, rs, hk, rfl, HBS, HRS, hi⟩ := hrel
        have HI := hid_of hi
        clear hi
        by_cases hlt : k < 2
        · have hltI : (k : Int) < 2 := by omega
          go_wp2_with fail
          go_loopw [7, 8, 10] (fun bv rv t wr => ∃ (k2 : Nat) (bs rs : List RL), k2 ≤ 2 ∧ t = .int .i64 k2 ∧ Hid (bs.length ≤ 4 * k + 2 * k2) ∧ Hid (rs.length ≤ 8 * k + 4 * k2) ∧ OwnI w1 wr bv rv bs rs) (fun _ _ t _ => 2 - (intOf t).toNat)
          case atStart => exact ⟨0, bs, rs, by omega, rfl, HBS.out, HRS.out, HI.out⟩
          case round =>
            clear HBS HRS HI
            obtain ⟨k2, bs, rs, hk2, rfl, HBS, HRS, hi⟩ := hrel
            have HI := hid_of hi
            clear hi
            by_cases hlt2 : k2 < 2
            · have hltI2 : (k2 : Int) < 2 := by omega
              by_cases h1 : k2 = 1
              · obtain ⟨us, HX, HXO, HXC, HXN⟩ : ∃ us, Hid (RowE w (.slice mo nm mc) us) ∧ Hid (∀ y ∈ us, y.Ok) ∧ Hid (checkD nameP us = 0) ∧ Hid (nm = us.length) := ⟨zs, HM, HZO, HE2.out.symm, HNM⟩
                have HXL := HML
                have HXT := HMT
                subst h1
                have HXK : Hid (∀ W, Kept (fun _ => False) w1 W → RowE W (.slice mo nm mc) us ∧ ∀ q, (Value.slice mo nm mc).ownBlock = some q → q < W.heap.size) := fun W hW => ⟨HX.out.kept (HK1.out.trans hW) (fun _ _ f => f), fun q hq => Nat.lt_of_lt_of_le (HXT.out q hq) (HK1.out.trans hW).size⟩
                have HEA := hid_of (enc_arg HXN.out HXO.out (HXK.out _ HI.out.kept).1 (HXK.out _ HI.out.kept).2)
                have HXR := hid_of (right_enc HXO.out HXC.out)
                obtain ⟨wl, hwl⟩ : ∃ n, n = (encB us).length := ⟨_, rfl⟩
                have hWS : wl ≤ 103500 := by rw [hwl]; exact HXR.out.2.2.1
                have HWL := hid_of hwl
                have HEX : Hid (encX us = encB us) := by unfold Hid encX; rw [if_pos HXC.out]
                clear hwl
                go_wp2_with fail
                refine HEA.out.mono ?_
                rintro e w3 he
                obtain ⟨bo, bn, bc, rfl, hbn, hb3, hk3⟩ := EncR.own HXO.out he
                rw [HEX.out, ← HWL.out] at hbn
                rw [HEX.out] at hb3
                rw [HXC.out]
                subst hbn
                have HB3 := hid_of hb3
                have HI3 := hid_of (HI.out.same hk3)
                have HS3 := hid_of hk3.size
                have HEB := hid_of (enc_arg HXN.out HXO.out (HXK.out _ HI3.out.kept).1 (HXK.out _ HI3.out.kept).2)
                clear he hb3 hk3 HEA
                go_wp2_with fail
                refine HEB.out.mono ?_
                rintro e w4 he
                obtain ⟨co, cn, cc, rfl, hcn, hc4, hk4⟩ := EncR.own HXO.out he
                rw [HEX.out, ← HWL.out] at hcn
                rw [HEX.out] at hc4
                rw [HXC.out]
                subst hcn
                have HC4 := hid_of hc4
                have HB4 := hid_of (hk4.ownsRow HB3.out (fun _ _ f => f))
                have HBL := hid_of (fun q hq => (HB3.out.lt q hq).2)
                have HI4 := hid_of (HI3.out.same hk4)
                have HS4 := hid_of hk4.size
                have HEC := hid_of (encr_arg HXN.out HXO.out (HXK.out _ HI4.out.kept).1 HXL.out)
                clear he hc4 hk4 HEB HB3 HI3
                go_wp2_with fail
                refine HEC.out.mono ?_
                rintro e w5 he
                obtain ⟨wo, wn, wc, rfl, hwn, hw5, hk5⟩ := EncR.own HXO.out he
                rw [HEX.out, ← HWL.out] at hwn
                rw [HEX.out] at hw5
                rw [HXC.out]
                subst hwn
                have HW5 := hid_of hw5
                have HB5 := hid_of (hk5.ownsRow HB4.out (fun _ _ f => f))
                have HC5 := hid_of (hk5.ownsRow HC4.out (fun _ _ f => f))
                have HI5 := hid_of (HI4.out.same hk5)
                have HS5 := hid_of hk5.size
                have hs1 := conv_str w5 _ _ (isB_own HB5.out)
                have hs2 := conv_str w5 _ _ (isB_own HC5.out)
                have hs3 := conv_str w5 _ _ (isB_own hw5)
                obtain ⟨sa, hsa⟩ : ∃ s, s = str (encB us) := ⟨_, rfl⟩
                rw [← hsa] at hs1 hs2 hs3
                have hLE := lend2_any (.slice wo wn wc) (encB us) w5 (isB_own hw5) (by rw [← HWL.out]; omega)
                rw [← HWL.out] at hLE
                have HLE := hid_of hLE
                clear he hw5 hk5 hsa hLE HEC HB4 HC4 HI4
                go_wp2_with fail
                refine HLE.out.mono ?_
                rintro e w6 ⟨rfl, hl6, hk6⟩
                have hg6 : w5.heap.size < w6.heap.size := by obtain ⟨cur, h0, _⟩ := hl6; exact (Array.getElem?_eq_some_iff.1 h0).1
                have HG6 := hid_of hg6
                have HL6 := hid_of hl6
                have HK6 := hid_of hk6
                have HIR : Hid (IsR w6 w5.heap.size (.slice (some ⟨w5.heap.size, 0, none⟩) wn (wn + 67)) (encB us)) := .inr ⟨0, wn + 67, by rw [← HWL.out], by rw [← HWL.out]; omega, by omega, by unfold maxLen; omega, fun i hi => by rw [Nat.zero_add]; exact hl6.at hi⟩
                have HD1 := hid_of (dec_arg HXO.out HXC.out HWL.out HIR.out hg6)
                clear hg6 hl6 hk6 hs1 hs2 hs3 HLE
                go_wp2_with fail
                refine HD1.out.mono ?_
                rintro e w7 ⟨⟨pv, rfl, hp7⟩, hk7⟩
                obtain ⟨po, pc, hpv⟩ := ownsRow_shape hp7
                rw [← HXN.out] at hpv
                subst hpv
                have HP7 := hid_of hp7
                have HL7 := hid_of (HL6.out.kept hk7 (fun f => f))
                have HK7 := hid_of (HK6.out.trans hk7)
                have HS7 := hid_of hk7.size
                have HD2 := hid_of (dec_arg HXO.out HXC.out HWL.out (HIR.out.kept hk7 (fun f => f)) (Nat.lt_of_lt_of_le HG6.out hk7.size))
                clear hp7 hk7 HD1 HIR HL6 HK6
                go_wp2_with fail
                refine HD2.out.mono ?_
                rintro e w8 ⟨⟨qv, rfl, hq8⟩, hk8⟩
                obtain ⟨qo, qc, hqv⟩ := ownsRow_shape hq8
                rw [← HXN.out] at hqv
                subst hqv
                have HQ8 := hid_of hq8
                have HPL := hid_of (fun q hq => (HP7.out.lt q hq).2)
                have HP8 := hid_of (hk8.ownsRow HP7.out (fun _ _ f => f))
                have HL8 := hid_of (HL7.out.kept hk8 (fun f => f))
                have HK8 := hid_of (HK7.out.trans hk8)
                have HS8 := hid_of hk8.size
                have HWO := hid_of (without_arg HXN.out HXO.out HXC.out (HXK.out _ (HI5.out.kept.trans HK8.out)).1 HXL.out s)
                clear hq8 hk8 HD2 HP7 HL7 HK7
                go_wp2_with fail
                refine HWO.out.mono ?_
                rintro e w9 ⟨lv, rfl, hl9, hk9⟩
                have HLS9 := hid_of hl9
                have HQL := hid_of (fun q hq => (HQ8.out.lt q hq).2)
                have HP9 := hid_of (hk9.ownsRow HP8.out (fun _ _ f => f))
                have HQ9 := hid_of (hk9.ownsRow HQ8.out (fun _ _ f => f))
                have HL9 := hid_of (HL8.out.kept hk9 (fun f => f))
                have HK9 := hid_of (HK8.out.trans hk9)
                have HS9 := hid_of hk9.size
                have HWI := hid_of (with_arg HXN.out HXO.out HXC.out (HXK.out _ (HI5.out.kept.trans HK9.out)).1 HXL.out 2)
                clear hl9 hk9 HWO HP8 HQ8 HL8 HK8
                go_wp2_with (refine wpList_ownE (by rfl) 2 rfl ?_)
                refine HWI.out.mono ?_
                rintro e w10 ⟨mv, rfl, hm10, hk10⟩
                have HMO10 := hid_of hm10
                have HLSL := hid_of (fun q hq => (HLS9.out.lt q hq).2)
                have HP10 := hid_of (hk10.ownsRow HP9.out (fun _ _ f => f))
                have HQ10 := hid_of (hk10.ownsRow HQ9.out (fun _ _ f => f))
                have HLS10 := hid_of (hk10.ownsRow HLS9.out (fun _ _ f => f))
                have HL10 := hid_of (HL9.out.kept hk10 (fun f => f))
                have HK10 := hid_of (HK9.out.trans hk10)
                have HFR : Hid (∀ y ∈ us, y.fr.length ≤ 32) := fun y hy => (HXO.out y hy).fr.1
                have HUL := hid_of (good_all HXC.out).1
                have hS1 := same_any (.slice po nm pc) (.slice mo nm mc) us us w10 (rowE_own HP10.out HFR.out) (HXK.out _ (HI5.out.kept.trans HK10.out)).1 HFR.out HFR.out (by have := HUL.out; omega)
                rw [sameL_refl] at hS1
                have HS1 := hid_of hS1
                clear hm10 hk10 hS1 HWI HP9 HQ9 HLS9 HL9 HK9
                go_wp2_with fail
                refine HS1.out.mono ?_
                rintro e w11 ⟨rfl, hk11⟩
                have HK11 := hid_of (HK10.out.trans hk11)
                have HKA := hid_of hk11
                have hS2 := same_any (.slice qo nm qc) (.slice mo nm mc) us us w11 (rowE_own (hk11.ownsRow HQ10.out (fun _ _ f => f)) HFR.out) (HXK.out _ (HI5.out.kept.trans HK11.out)).1 HFR.out HFR.out (by have := HUL.out; omega)
                rw [sameL_refl] at hS2
                have HS2 := hid_of hS2
                clear hk11 hS2 HS1
                go_wp2_with fail
                refine HS2.out.mono ?_
                rintro e w12 ⟨rfl, hk12⟩
                have HK12 := hid_of (HK11.out.trans hk12)
                have HKB := hid_of (HKA.out.trans hk12)
                have HWR := hid_of (withoutr_arg HXN.out HXO.out HXC.out (HXK.out _ (HI5.out.kept.trans HK12.out)).1 s)
                clear hk12 HS2 HKA HK11
                go_wp2_with fail
                refine HWR.out.mono ?_
                rintro e w13 ⟨v13, rfl, hv13, hk13⟩
                have HK13 := hid_of (HK12.out.trans hk13)
                have HKC := hid_of (HKB.out.trans hk13)
                have hS3 := same_any lv v13 _ _ w13 (rowE_own (HKC.out.ownsRow HLS10.out (fun _ _ f => f)) (without_fr HFR.out s)) (rowE_own hv13 (without_fr HFR.out s)) (without_fr HFR.out s) (without_fr HFR.out s) (by have := without_le us s; have := HUL.out; omega)
                rw [sameL_refl] at hS3
                have HS3' := hid_of hS3
                clear hv13 hk13 hS3 HWR HKB HK12
                go_wp2_with fail
                refine HS3'.out.mono ?_
                rintro e w14 ⟨rfl, hk14⟩
                have HK14 := hid_of (HK13.out.trans hk14)
                have HKD := hid_of (HKC.out.trans hk14)
                have HWS := hid_of (withr_arg HXN.out HXO.out HXC.out (HXK.out _ (HI5.out.kept.trans HK14.out)).1 2)
                clear hk14 HS3' HKC HK13
                go_wp2_with (refine wpList_ownE (by rfl) 2 rfl ?_)
                refine HWS.out.mono ?_
                rintro e w15 ⟨v15, rfl, hv15, hk15⟩
                have HK15 := hid_of (HK14.out.trans hk15)
                have HKE := hid_of (HKD.out.trans hk15)
                have hS4 := same_any mv v15 _ _ w15 (rowE_own (HKE.out.ownsRow HMO10.out (fun _ _ f => f)) (with_fr HFR.out (ownE_fr 2))) (rowE_own hv15 (with_fr HFR.out (ownE_fr 2))) (with_fr HFR.out (ownE_fr 2)) (with_fr HFR.out (ownE_fr 2)) (by have := with_lenL (x := ownE 2) false us; have := HUL.out; omega)
                rw [sameL_refl] at hS4
                have HS4' := hid_of hS4
                clear hv15 hk15 hS4 HWS HKD HK14
                go_wp2_with fail
                refine HS4'.out.mono ?_
                rintro e w16 ⟨rfl, hk16⟩
                have HK16 := hid_of (HK15.out.trans hk16)
                have HKF := hid_of (HKE.out.trans hk16)
                have hKE := held2_any w5.heap.size (.slice wo wn wc) (encB us) w16 (HL10.out.kept HKF.out (fun f => f)) (isB_own (HK16.out.ownsRow HW5.out (fun _ _ f => f))) (by rw [← HWL.out]; omega)
                rw [← HWL.out] at hKE
                have HHE := hid_of hKE
                clear hk16 hKE HS4' HKE HK15
                go_wp2_with fail
                refine HHE.out.mono ?_
                rintro e w17 ⟨rfl, hk17⟩
                have hkT : Kept (fun k => k = w5.heap.size) w5 w17 := (HK16.out.mono (fun _ _ f => f.elim)).trans hk17
                have hkU : Kept (fun k => k = w5.heap.size) w10 w17 := (HKF.out.mono (fun _ _ f => f.elim)).trans hk17
                have HI17 := hid_of (HI5.out.over (Nat.le_refl _) hkT)
                have HB17 := hid_of (hkT.ownsRow HB5.out (fun q hq e => by have := (HB5.out.lt q hq).2; omega))
                have HC17 := hid_of (hkT.ownsRow HC5.out (fun q hq e => by have := (HC5.out.lt q hq).2; omega))
                have HP17 := hid_of (hkU.ownsRow HP10.out (fun q hq e => by have := (HP10.out.lt q hq).1; have := HG6.out; omega))
                have HQ17 := hid_of (hkU.ownsRow HQ10.out (fun q hq e => by have := (HQ10.out.lt q hq).1; have := HG6.out; have := HS7.out; omega))
                have HLS17 := hid_of (hkU.ownsRow HLS10.out (fun q hq e => by have := (HLS10.out.lt q hq).1; have := HG6.out; have := HS7.out; have := HS8.out; omega))
                have HMO17 := hid_of (hkU.ownsRow HMO10.out (fun q hq e => by have := (HMO10.out.lt q hq).1; have := HG6.out; have := HS7.out; have := HS8.out; have := HS9.out; omega))
                have hbl : bs.length ≤ 8 := by have := HBS.out; omega
                have hrl : rs.length ≤ 16 := by have := HRS.out; omega
                have HBK : Hid (∀ q, Blk bs q → q < wr.heap.size) := fun q hq => HI.out.b.blk hq
                have HRK : Hid (∀ q, Blk rs q → q < wr.heap.size) := fun q hq => HI.out.r.blk hq
                have HWN : Hid (w1.heap.size ≤ wr.heap.size) := HI.out.kept.size
                obtain ⟨lo1, lc1, hlv⟩ := ownsRow_shape HLS17.out
                obtain ⟨ln, hln⟩ : ∃ n, n = (withoutL us s).length := ⟨_, rfl⟩
                rw [← hln] at hlv
                obtain ⟨mo1, mc1, hmv⟩ := ownsRow_shape HMO17.out
                obtain ⟨mn, hmn⟩ : ∃ n, n = (withL (ownE 2) false us).length := ⟨_, rfl⟩
                rw [← hmn] at hmv
                have hln2 : ln ≤ 4194304 := by rw [hln]; have := without_le us s; have := HUL.out; omega
                have hmn2 : mn ≤ 4194304 := by rw [hmn]; have := with_lenL (x := ownE 2) false us; have := HUL.out; omega
                rw [← hln] at HLS17
                rw [← hmn] at HMO17
                subst hlv
                subst hmv
                clear hkT hkU hk17 hln hmn HHE HI5 HB5 HC5 HP10 HQ10 HLS10 HMO10 HK16 HKF HW5 HI HL10 HK10
                go_wp2_with (at_builtin; refine wpList_append_old _ rfl (.tmp 126) (.tmp 129) 25 rfl 0 27 i26 (.slice none 0 0) 1 24 Tryz.underlying25 hi26 z260 z261 z262 rfl (by decide) _ bs.length (bs.map RL.v) rfl (HI17.out.b.row.alloc _) ⟨_, 0, none⟩ 2 2 [.slice bo wn bc, .slice co wn cc] rfl rfl (cell_two_new _ _ _ _) (by intro u hu; simp at hu; rcases hu with rfl | rfl <;> rfl) (by unfold maxLen; omega) (by omega) (Nat.zero_le _) ?_)
                intro bv' w18 hown18 hgrow18 hat18 hold18
                have hk18 := kept_grown hgrow18 ((Kept.refl _ w17).alloc _)
                have HI18 := hid_of (HI17.out.pushB (a := ⟨.slice bo wn bc, wn, (encB us).map (Value.int .u8)⟩) (b := ⟨.slice co wn cc, wn, (encB us).map (Value.int .u8)⟩) (own_mono HB17.out (Nat.zero_le _)) (own_mono HC17.out (Nat.zero_le _))
                  (fun q hq e => by have h1 := HBL.out q hq; have h2 := (HC17.out.lt q e).1; omega) (fun q hq e => by have h1 := HBK.out q hq; have h2 := (HB17.out.lt q e).1; omega) (fun q hq e => by have h1 := HBK.out q hq; have h2 := (HC17.out.lt q e).1; have := HS3.out; omega)
                  (fun q e => by have h2 := (HB17.out.lt q e).1; have := HWN.out; omega) (fun q e => by have h2 := (HC17.out.lt q e).1; have := HS3.out; have := HWN.out; omega) (show wn ≤ 4194304 by omega) (show wn ≤ 4194304 by omega) hown18 hk18 (at_of hat18 (by omega)))
                have HP18 := hid_of (hk18.ownsRow HP17.out (fun q hq e => own_apart HI17.out.b.row HP17.out (by decide) e hq))
                have HQ18 := hid_of (hk18.ownsRow HQ17.out (fun q hq e => own_apart HI17.out.b.row HQ17.out (by decide) e hq))
                have HLS18 := hid_of (hk18.ownsRow HLS17.out (fun q hq e => own_apart HI17.out.b.row HLS17.out (by decide) e hq))
                have HMO18 := hid_of (hk18.ownsRow HMO17.out (fun q hq e => own_apart HI17.out.b.row HMO17.out (by decide) e hq))
                clear hown18 hgrow18 hat18 hold18 hk18 HB17 HC17 HI17 HP17 HQ17 HLS17 HMO17
                go_wp2_with (at_builtin; refine wpList_append_old _ rfl (.tmp 131) (.tmp 136) 26 rfl 0 22 i22 (.slice none 0 0) 1 24 Tryz.underlying26 hi22 z220 z221 z222 rfl (by decide) _ rs.length (rs.map RL.v) rfl (HI18.out.r.row.alloc _) ⟨_, 0, none⟩ 4 4 [.slice po nm pc, .slice qo nm qc, .slice lo1 ln lc1, .slice mo1 mn mc1] rfl rfl (cell_four_new _ _ _ _ _ _) (by intro u hu; simp at hu; rcases hu with rfl | rfl | rfl | rfl <;> rfl) (by unfold maxLen; omega) (by omega) (Nat.zero_le _) ?_)
                intro rv' w19 hown19 hgrow19 hat19 hold19
                have hk19 := kept_grown hgrow19 ((Kept.refl _ w18).alloc _)
                have hxn : nm ≤ 4194304 := by rw [HXN.out]; have := HUL.out; omega
                rw [← HXN.out] at HP18 HQ18
                have HI19 := hid_of (HI18.out.pushR4 (a := ⟨.slice po nm pc, nm, ents us⟩) (b := ⟨.slice qo nm qc, nm, ents us⟩) (c := ⟨.slice lo1 ln lc1, ln, ents (withoutL us s)⟩) (d := ⟨.slice mo1 mn mc1, mn, ents (withL (ownE 2) false us)⟩) (B0 := w6.heap.size) (B1 := w7.heap.size) (B2 := w8.heap.size) (B3 := w9.heap.size)
                  (own_mono HP18.out (Nat.zero_le _)) (own_mono HQ18.out (Nat.zero_le _)) (own_mono HLS18.out (Nat.zero_le _)) (own_mono HMO18.out (Nat.zero_le _))
                  ⟨fun q hq => ⟨(HP18.out.lt q hq).1, HPL.out q hq⟩, fun q hq => ⟨(HQ18.out.lt q hq).1, HQL.out q hq⟩, fun q hq => ⟨(HLS18.out.lt q hq).1, HLSL.out q hq⟩, fun q hq => (HMO18.out.lt q hq).1, HS7.out, HS8.out, HS9.out⟩
                  (fun q hq => by have h1 := HRK.out q hq; have := HS3.out; have := HS4.out; have := HS5.out; have := HG6.out; omega) (by have := HWN.out; have := HS3.out; have := HS4.out; have := HS5.out; have := HG6.out; omega) hxn hxn hln2 hmn2 hown19 hk19 (at_of hat19 (by omega)))
                have HB19 : Hid ((bs ++ [RL.mk (.slice bo wn bc) wn ((encB us).map (Value.int .u8)), RL.mk (.slice co wn cc) wn ((encB us).map (Value.int .u8))]).length ≤ 4 * k + 2 * (1 + 1)) := by unfold Hid; rw [List.length_append]; have := HBS.out; simp; omega
                have HR19 : Hid ((rs ++ [RL.mk (.slice po nm pc) nm (ents us), RL.mk (.slice qo nm qc) nm (ents us), RL.mk (.slice lo1 ln lc1) ln (ents (withoutL us s)), RL.mk (.slice mo1 mn mc1) mn (ents (withL (ownE 2) false us))]).length ≤ 8 * k + 4 * (1 + 1)) := by unfold Hid; rw [List.length_append]; have := HRS.out; simp; omega
                clear hown19 hgrow19 hat19 hold19 hk19 HI18 HP18 HQ18 HLS18 HMO18
                go_wp2
                go_roundw
                case rel => exact ⟨1 + 1, _, _, by omega, by go_num, HB19, HR19, HI19.out⟩
                case measure => simp [intOf]
              · obtain ⟨us, HX, HXO, HXC, HXN⟩ : ∃ us, Hid (RowE w (.slice lo nl lc) us) ∧ Hid (∀ y ∈ us, y.Ok) ∧ Hid (checkD nameP us = 0) ∧ Hid (nl = us.length) := ⟨ys, HL, HYO, HE1.out.symm, HNL⟩
                have HXL := HLL
                have HXT := HLT
                have h0 : k2 = 0 := by omega
                subst h0
                have HXK : Hid (∀ W, Kept (fun _ => False) w1 W → RowE W (.slice lo nl lc) us ∧ ∀ q, (Value.slice lo nl lc).ownBlock = some q → q < W.heap.size) := fun W hW => ⟨HX.out.kept (HK1.out.trans hW) (fun _ _ f => f), fun q hq => Nat.lt_of_lt_of_le (HXT.out q hq) (HK1.out.trans hW).size⟩
                have HEA := hid_of (enc_arg HXN.out HXO.out (HXK.out _ HI.out.kept).1 (HXK.out _ HI.out.kept).2)
                have HXR := hid_of (right_enc HXO.out HXC.out)
                obtain ⟨wl, hwl⟩ : ∃ n, n = (encB us).length := ⟨_, rfl⟩
                have hWS : wl ≤ 103500 := by rw [hwl]; exact HXR.out.2.2.1
                have HWL := hid_of hwl
                have HEX : Hid (encX us = encB us) := by unfold Hid encX; rw [if_pos HXC.out]
                clear hwl
                go_wp2_with fail
                refine HEA.out.mono ?_
                rintro e w3 he
                obtain ⟨bo, bn, bc, rfl, hbn, hb3, hk3⟩ := EncR.own HXO.out he
                rw [HEX.out, ← HWL.out] at hbn
                rw [HEX.out] at hb3
                rw [HXC.out]
                subst hbn
                have HB3 := hid_of hb3
                have HI3 := hid_of (HI.out.same hk3)
                have HS3 := hid_of hk3.size
                have HEB := hid_of (enc_arg HXN.out HXO.out (HXK.out _ HI3.out.kept).1 (HXK.out _ HI3.out.kept).2)
                clear he hb3 hk3 HEA
                go_wp2_with fail
                refine HEB.out.mono ?_
                rintro e w4 he
                obtain ⟨co, cn, cc, rfl, hcn, hc4, hk4⟩ := EncR.own HXO.out he
                rw [HEX.out, ← HWL.out] at hcn
                rw [HEX.out] at hc4
                rw [HXC.out]
                subst hcn
                have HC4 := hid_of hc4
                have HB4 := hid_of (hk4.ownsRow HB3.out (fun _ _ f => f))
                have HBL := hid_of (fun q hq => (HB3.out.lt q hq).2)
                have HI4 := hid_of (HI3.out.same hk4)
                have HS4 := hid_of hk4.size
                have HEC := hid_of (encr_arg HXN.out HXO.out (HXK.out _ HI4.out.kept).1 HXL.out)
                clear he hc4 hk4 HEB HB3 HI3
                go_wp2_with fail
                refine HEC.out.mono ?_
                rintro e w5 he
                obtain ⟨wo, wn, wc, rfl, hwn, hw5, hk5⟩ := EncR.own HXO.out he
                rw [HEX.out, ← HWL.out] at hwn
                rw [HEX.out] at hw5
                rw [HXC.out]
                subst hwn
                have HW5 := hid_of hw5
                have HB5 := hid_of (hk5.ownsRow HB4.out (fun _ _ f => f))
                have HC5 := hid_of (hk5.ownsRow HC4.out (fun _ _ f => f))
                have HI5 := hid_of (HI4.out.same hk5)
                have HS5 := hid_of hk5.size
                have hs1 := conv_str w5 _ _ (isB_own HB5.out)
                have hs2 := conv_str w5 _ _ (isB_own HC5.out)
                have hs3 := conv_str w5 _ _ (isB_own hw5)
                obtain ⟨sa, hsa⟩ : ∃ s, s = str (encB us) := ⟨_, rfl⟩
                rw [← hsa] at hs1 hs2 hs3
                have hLE := lend2_any (.slice wo wn wc) (encB us) w5 (isB_own hw5) (by rw [← HWL.out]; omega)
                rw [← HWL.out] at hLE
                have HLE := hid_of hLE
                clear he hw5 hk5 hsa hLE HEC HB4 HC4 HI4
                go_wp2_with fail
                refine HLE.out.mono ?_
                rintro e w6 ⟨rfl, hl6, hk6⟩
                have hg6 : w5.heap.size < w6.heap.size := by obtain ⟨cur, h0, _⟩ := hl6; exact (Array.getElem?_eq_some_iff.1 h0).1
                have HG6 := hid_of hg6
                have HL6 := hid_of hl6
                have HK6 := hid_of hk6
                have HIR : Hid (IsR w6 w5.heap.size (.slice (some ⟨w5.heap.size, 0, none⟩) wn (wn + 67)) (encB us)) := .inr ⟨0, wn + 67, by rw [← HWL.out], by rw [← HWL.out]; omega, by omega, by unfold maxLen; omega, fun i hi => by rw [Nat.zero_add]; exact hl6.at hi⟩
                have HD1 := hid_of (dec_arg HXO.out HXC.out HWL.out HIR.out hg6)
                clear hg6 hl6 hk6 hs1 hs2 hs3 HLE
                go_wp2_with fail
                refine HD1.out.mono ?_
                rintro e w7 ⟨⟨pv, rfl, hp7⟩, hk7⟩
                obtain ⟨po, pc, hpv⟩ := ownsRow_shape hp7
                rw [← HXN.out] at hpv
                subst hpv
                have HP7 := hid_of hp7
                have HL7 := hid_of (HL6.out.kept hk7 (fun f => f))
                have HK7 := hid_of (HK6.out.trans hk7)
                have HS7 := hid_of hk7.size
                have HD2 := hid_of (dec_arg HXO.out HXC.out HWL.out (HIR.out.kept hk7 (fun f => f)) (Nat.lt_of_lt_of_le HG6.out hk7.size))
                clear hp7 hk7 HD1 HIR HL6 HK6
                go_wp2_with fail
                refine HD2.out.mono ?_
                rintro e w8 ⟨⟨qv, rfl, hq8⟩, hk8⟩
                obtain ⟨qo, qc, hqv⟩ := ownsRow_shape hq8
                rw [← HXN.out] at hqv
                subst hqv
                have HQ8 := hid_of hq8
                have HPL := hid_of (fun q hq => (HP7.out.lt q hq).2)
                have HP8 := hid_of (hk8.ownsRow HP7.out (fun _ _ f => f))
                have HL8 := hid_of (HL7.out.kept hk8 (fun f => f))
                have HK8 := hid_of (HK7.out.trans hk8)
                have HS8 := hid_of hk8.size
                have HWO := hid_of (without_arg HXN.out HXO.out HXC.out (HXK.out _ (HI5.out.kept.trans HK8.out)).1 HXL.out s)
                clear hq8 hk8 HD2 HP7 HL7 HK7
                go_wp2_with fail
                refine HWO.out.mono ?_
                rintro e w9 ⟨lv, rfl, hl9, hk9⟩
                have HLS9 := hid_of hl9
                have HQL := hid_of (fun q hq => (HQ8.out.lt q hq).2)
                have HP9 := hid_of (hk9.ownsRow HP8.out (fun _ _ f => f))
                have HQ9 := hid_of (hk9.ownsRow HQ8.out (fun _ _ f => f))
                have HL9 := hid_of (HL8.out.kept hk9 (fun f => f))
                have HK9 := hid_of (HK8.out.trans hk9)
                have HS9 := hid_of hk9.size
                have HWI := hid_of (with_arg HXN.out HXO.out HXC.out (HXK.out _ (HI5.out.kept.trans HK9.out)).1 HXL.out 2)
                clear hl9 hk9 HWO HP8 HQ8 HL8 HK8
                go_wp2_with (refine wpList_ownE (by rfl) 2 rfl ?_)
                refine HWI.out.mono ?_
                rintro e w10 ⟨mv, rfl, hm10, hk10⟩
                have HMO10 := hid_of hm10
                have HLSL := hid_of (fun q hq => (HLS9.out.lt q hq).2)
                have HP10 := hid_of (hk10.ownsRow HP9.out (fun _ _ f => f))
                have HQ10 := hid_of (hk10.ownsRow HQ9.out (fun _ _ f => f))
                have HLS10 := hid_of (hk10.ownsRow HLS9.out (fun _ _ f => f))
                have HL10 := hid_of (HL9.out.kept hk10 (fun f => f))
                have HK10 := hid_of (HK9.out.trans hk10)
                have HFR : Hid (∀ y ∈ us, y.fr.length ≤ 32) := fun y hy => (HXO.out y hy).fr.1
                have HUL := hid_of (good_all HXC.out).1
                have hS1 := same_any (.slice po nl pc) (.slice lo nl lc) us us w10 (rowE_own HP10.out HFR.out) (HXK.out _ (HI5.out.kept.trans HK10.out)).1 HFR.out HFR.out (by have := HUL.out; omega)
                rw [sameL_refl] at hS1
                have HS1 := hid_of hS1
                clear hm10 hk10 hS1 HWI HP9 HQ9 HLS9 HL9 HK9
                go_wp2_with fail
                refine HS1.out.mono ?_
                rintro e w11 ⟨rfl, hk11⟩
                have HK11 := hid_of (HK10.out.trans hk11)
                have HKA := hid_of hk11
                have hS2 := same_any (.slice qo nl qc) (.slice lo nl lc) us us w11 (rowE_own (hk11.ownsRow HQ10.out (fun _ _ f => f)) HFR.out) (HXK.out _ (HI5.out.kept.trans HK11.out)).1 HFR.out HFR.out (by have := HUL.out; omega)
                rw [sameL_refl] at hS2
                have HS2 := hid_of hS2
                clear hk11 hS2 HS1
                go_wp2_with fail
                refine HS2.out.mono ?_
                rintro e w12 ⟨rfl, hk12⟩
                have HK12 := hid_of (HK11.out.trans hk12)
                have HKB := hid_of (HKA.out.trans hk12)
                have HWR := hid_of (withoutr_arg HXN.out HXO.out HXC.out (HXK.out _ (HI5.out.kept.trans HK12.out)).1 s)
                clear hk12 HS2 HKA HK11
                go_wp2_with fail
                refine HWR.out.mono ?_
                rintro e w13 ⟨v13, rfl, hv13, hk13⟩
                have HK13 := hid_of (HK12.out.trans hk13)
                have HKC := hid_of (HKB.out.trans hk13)
                have hS3 := same_any lv v13 _ _ w13 (rowE_own (HKC.out.ownsRow HLS10.out (fun _ _ f => f)) (without_fr HFR.out s)) (rowE_own hv13 (without_fr HFR.out s)) (without_fr HFR.out s) (without_fr HFR.out s) (by have := without_le us s; have := HUL.out; omega)
                rw [sameL_refl] at hS3
                have HS3' := hid_of hS3
                clear hv13 hk13 hS3 HWR HKB HK12
                go_wp2_with fail
                refine HS3'.out.mono ?_
                rintro e w14 ⟨rfl, hk14⟩
                have HK14 := hid_of (HK13.out.trans hk14)
                have HKD := hid_of (HKC.out.trans hk14)
                have HWS := hid_of (withr_arg HXN.out HXO.out HXC.out (HXK.out _ (HI5.out.kept.trans HK14.out)).1 2)
                clear hk14 HS3' HKC HK13
                go_wp2_with (refine wpList_ownE (by rfl) 2 rfl ?_)
                refine HWS.out.mono ?_
                rintro e w15 ⟨v15, rfl, hv15, hk15⟩
                have HK15 := hid_of (HK14.out.trans hk15)
                have HKE := hid_of (HKD.out.trans hk15)
                have hS4 := same_any mv v15 _ _ w15 (rowE_own (HKE.out.ownsRow HMO10.out (fun _ _ f => f)) (with_fr HFR.out (ownE_fr 2))) (rowE_own hv15 (with_fr HFR.out (ownE_fr 2))) (with_fr HFR.out (ownE_fr 2)) (with_fr HFR.out (ownE_fr 2)) (by have := with_lenL (x := ownE 2) false us; have := HUL.out; omega)
                rw [sameL_refl] at hS4
                have HS4' := hid_of hS4
                clear hv15 hk15 hS4 HWS HKD HK14
                go_wp2_with fail
                refine HS4'.out.mono ?_
                rintro e w16 ⟨rfl, hk16⟩
                have HK16 := hid_of (HK15.out.trans hk16)
                have HKF := hid_of (HKE.out.trans hk16)
                have hKE := held2_any w5.heap.size (.slice wo wn wc) (encB us) w16 (HL10.out.kept HKF.out (fun f => f)) (isB_own (HK16.out.ownsRow HW5.out (fun _ _ f => f))) (by rw [← HWL.out]; omega)
                rw [← HWL.out] at hKE
                have HHE := hid_of hKE
                clear hk16 hKE HS4' HKE HK15
                go_wp2_with fail
                refine HHE.out.mono ?_
                rintro e w17 ⟨rfl, hk17⟩
                have hkT : Kept (fun k => k = w5.heap.size) w5 w17 := (HK16.out.mono (fun _ _ f => f.elim)).trans hk17
                have hkU : Kept (fun k => k = w5.heap.size) w10 w17 := (HKF.out.mono (fun _ _ f => f.elim)).trans hk17
                have HI17 := hid_of (HI5.out.over (Nat.le_refl _) hkT)
                have HB17 := hid_of (hkT.ownsRow HB5.out (fun q hq e => by have := (HB5.out.lt q hq).2; omega))
                have HC17 := hid_of (hkT.ownsRow HC5.out (fun q hq e => by have := (HC5.out.lt q hq).2; omega))
                have HP17 := hid_of (hkU.ownsRow HP10.out (fun q hq e => by have := (HP10.out.lt q hq).1; have := HG6.out; omega))
                have HQ17 := hid_of (hkU.ownsRow HQ10.out (fun q hq e => by have := (HQ10.out.lt q hq).1; have := HG6.out; have := HS7.out; omega))
                have HLS17 := hid_of (hkU.ownsRow HLS10.out (fun q hq e => by have := (HLS10.out.lt q hq).1; have := HG6.out; have := HS7.out; have := HS8.out; omega))
                have HMO17 := hid_of (hkU.ownsRow HMO10.out (fun q hq e => by have := (HMO10.out.lt q hq).1; have := HG6.out; have := HS7.out; have := HS8.out; have := HS9.out; omega))
                have hbl : bs.length ≤ 8 := by have := HBS.out; omega
                have hrl : rs.length ≤ 16 := by have := HRS.out; omega
                have HBK : Hid (∀ q, Blk bs q → q < wr.heap.size) := fun q hq => HI.out.b.blk hq
                have HRK : Hid (∀ q, Blk rs q → q < wr.heap.size) := fun q hq => HI.out.r.blk hq
                have HWN : Hid (w1.heap.size ≤ wr.heap.size) := HI.out.kept.size
                obtain ⟨lo1, lc1, hlv⟩ := ownsRow_shape HLS17.out
                obtain ⟨ln, hln⟩ : ∃ n, n = (withoutL us s).length := ⟨_, rfl⟩
                rw [← hln] at hlv
                obtain ⟨mo1, mc1, hmv⟩ := ownsRow_shape HMO17.out
                obtain ⟨mn, hmn⟩ : ∃ n, n = (withL (ownE 2) false us).length := ⟨_, rfl⟩
                rw [← hmn] at hmv
                have hln2 : ln ≤ 4194304 := by rw [hln]; have := without_le us s; have := HUL.out; omega
                have hmn2 : mn ≤ 4194304 := by rw [hmn]; have := with_lenL (x := ownE 2) false us; have := HUL.out; omega
                rw [← hln] at HLS17
                rw [← hmn] at HMO17
                subst hlv
                subst hmv
                clear hkT hkU hk17 hln hmn HHE HI5 HB5 HC5 HP10 HQ10 HLS10 HMO10 HK16 HKF HW5 HI HL10 HK10
                go_wp2_with (at_builtin; refine wpList_append_old _ rfl (.tmp 126) (.tmp 129) 25 rfl 0 27 i26 (.slice none 0 0) 1 24 Tryz.underlying25 hi26 z260 z261 z262 rfl (by decide) _ bs.length (bs.map RL.v) rfl (HI17.out.b.row.alloc _) ⟨_, 0, none⟩ 2 2 [.slice bo wn bc, .slice co wn cc] rfl rfl (cell_two_new _ _ _ _) (by intro u hu; simp at hu; rcases hu with rfl | rfl <;> rfl) (by unfold maxLen; omega) (by omega) (Nat.zero_le _) ?_)
                intro bv' w18 hown18 hgrow18 hat18 hold18
                have hk18 := kept_grown hgrow18 ((Kept.refl _ w17).alloc _)
                have HI18 := hid_of (HI17.out.pushB (a := ⟨.slice bo wn bc, wn, (encB us).map (Value.int .u8)⟩) (b := ⟨.slice co wn cc, wn, (encB us).map (Value.int .u8)⟩) (own_mono HB17.out (Nat.zero_le _)) (own_mono HC17.out (Nat.zero_le _))
                  (fun q hq e => by have h1 := HBL.out q hq; have h2 := (HC17.out.lt q e).1; omega) (fun q hq e => by have h1 := HBK.out q hq; have h2 := (HB17.out.lt q e).1; omega) (fun q hq e => by have h1 := HBK.out q hq; have h2 := (HC17.out.lt q e).1; have := HS3.out; omega)
                  (fun q e => by have h2 := (HB17.out.lt q e).1; have := HWN.out; omega) (fun q e => by have h2 := (HC17.out.lt q e).1; have := HS3.out; have := HWN.out; omega) (show wn ≤ 4194304 by omega) (show wn ≤ 4194304 by omega) hown18 hk18 (at_of hat18 (by omega)))
                have HP18 := hid_of (hk18.ownsRow HP17.out (fun q hq e => own_apart HI17.out.b.row HP17.out (by decide) e hq))
                have HQ18 := hid_of (hk18.ownsRow HQ17.out (fun q hq e => own_apart HI17.out.b.row HQ17.out (by decide) e hq))
                have HLS18 := hid_of (hk18.ownsRow HLS17.out (fun q hq e => own_apart HI17.out.b.row HLS17.out (by decide) e hq))
                have HMO18 := hid_of (hk18.ownsRow HMO17.out (fun q hq e => own_apart HI17.out.b.row HMO17.out (by decide) e hq))
                clear hown18 hgrow18 hat18 hold18 hk18 HB17 HC17 HI17 HP17 HQ17 HLS17 HMO17
                go_wp2_with (at_builtin; refine wpList_append_old _ rfl (.tmp 131) (.tmp 136) 26 rfl 0 22 i22 (.slice none 0 0) 1 24 Tryz.underlying26 hi22 z220 z221 z222 rfl (by decide) _ rs.length (rs.map RL.v) rfl (HI18.out.r.row.alloc _) ⟨_, 0, none⟩ 4 4 [.slice po nl pc, .slice qo nl qc, .slice lo1 ln lc1, .slice mo1 mn mc1] rfl rfl (cell_four_new _ _ _ _ _ _) (by intro u hu; simp at hu; rcases hu with rfl | rfl | rfl | rfl <;> rfl) (by unfold maxLen; omega) (by omega) (Nat.zero_le _) ?_)
                intro rv' w19 hown19 hgrow19 hat19 hold19
                have hk19 := kept_grown hgrow19 ((Kept.refl _ w18).alloc _)
                have hxn : nl ≤ 4194304 := by rw [HXN.out]; have := HUL.out; omega
                rw [← HXN.out] at HP18 HQ18
                have HI19 := hid_of (HI18.out.pushR4 (a := ⟨.slice po nl pc, nl, ents us⟩) (b := ⟨.slice qo nl qc, nl, ents us⟩) (c := ⟨.slice lo1 ln lc1, ln, ents (withoutL us s)⟩) (d := ⟨.slice mo1 mn mc1, mn, ents (withL (ownE 2) false us)⟩) (B0 := w6.heap.size) (B1 := w7.heap.size) (B2 := w8.heap.size) (B3 := w9.heap.size)
                  (own_mono HP18.out (Nat.zero_le _)) (own_mono HQ18.out (Nat.zero_le _)) (own_mono HLS18.out (Nat.zero_le _)) (own_mono HMO18.out (Nat.zero_le _))
                  ⟨fun q hq => ⟨(HP18.out.lt q hq).1, HPL.out q hq⟩, fun q hq => ⟨(HQ18.out.lt q hq).1, HQL.out q hq⟩, fun q hq => ⟨(HLS18.out.lt q hq).1, HLSL.out q hq⟩, fun q hq => (HMO18.out.lt q hq).1, HS7.out, HS8.out, HS9.out⟩
                  (fun q hq => by have h1 := HRK.out q hq; have := HS3.out; have := HS4.out; have := HS5.out; have := HG6.out; omega) (by have := HWN.out; have := HS3.out; have := HS4.out; have := HS5.out; have := HG6.out; omega) hxn hxn hln2 hmn2 hown19 hk19 (at_of hat19 (by omega)))
                have HB19 : Hid ((bs ++ [RL.mk (.slice bo wn bc) wn ((encB us).map (Value.int .u8)), RL.mk (.slice co wn cc) wn ((encB us).map (Value.int .u8))]).length ≤ 4 * k + 2 * (0 + 1)) := by unfold Hid; rw [List.length_append]; have := HBS.out; simp; omega
                have HR19 : Hid ((rs ++ [RL.mk (.slice po nl pc) nl (ents us), RL.mk (.slice qo nl qc) nl (ents us), RL.mk (.slice lo1 ln lc1) ln (ents (withoutL us s)), RL.mk (.slice mo1 mn mc1) mn (ents (withL (ownE 2) false us))]).length ≤ 8 * k + 4 * (0 + 1)) := by unfold Hid; rw [List.length_append]; have := HRS.out; simp; omega
                clear hown19 hgrow19 hat19 hold19 hk19 HI18 HP18 HQ18 HLS18 HMO18
                go_wp2
                go_roundw
                case rel => exact ⟨0 + 1, _, _, by omega, by go_num, HB19, HR19, HI19.out⟩
                case measure => simp [intOf]
            · have hk2' : k2 = 2 := by omega
              subst hk2'
              have hI2 : ¬ (((2 : Nat) : Int) < 2) := by omega
              go_wp2
              go_roundw
              case rel => exact ⟨k + 1, bs, rs, by omega, by go_num, (by unfold Hid; have := HBS.out; omega), (by unfold Hid; have := HRS.out; omega), HI.out⟩
              case measure => simp [intOf]; omega
        · have hk' : k = 2 := by omega
          subst hk'
          have hI2 : ¬ (((2 : Nat) : Int) < 2) := by omega
          rename World => w2
          have hkA : Kept (fun _ => False) w2 (w2.alloc (.cells #[] 41)) := (Kept.refl _ _).alloc _
          have hyl := (good_all HE1.out.symm).1
          have hzl := (good_all HE2.out.symm).1
          have HFY : Hid (∀ y ∈ ys, y.fr.length ≤ 32) := fun y hy => (HYO.out y hy).fr.1
          have HFZ : Hid (∀ y ∈ zs, y.fr.length ≤ 32) := fun y hy => (HZO.out y hy).fr.1
          have HYL := hid_of hyl
          have HZL := hid_of hzl
          have HLO : Hid (lo = none → nl = 0) := fun e => by
            rcases HLL.out with ⟨_, h⟩ | ⟨g, o, c, h, _⟩
            · exact h
            · rw [e] at h; cases h
          have HMO : Hid (mo = none → nm = 0) := fun e => by
            rcases HML.out with ⟨_, h⟩ | ⟨g, o, c, h, _⟩
            · exact h
            · rw [e] at h; cases h
          obtain ⟨ra, ca, wa, hra, hoa, hka⟩ := app_ents (w2.alloc (.cells #[] 41)) _ w2.heap.size [] lo lc ys (own_noneE w2 w2.heap.size (Nat.le_refl _)) (by rw [← HNL.out]; exact HL.out.kept (HK1.out.trans (HI.out.kept.trans hkA)) (fun _ _ f => f)) HFY.out hkA.size (by simp; omega) (by rw [← HNL.out]; exact HLO.out)
          rw [List.nil_append, ← HNL.out] at hra hoa
          have hkAa : Kept (fun _ => False) w2 wa := kept_new hka (fun k e => by simp [Value.ownBlock] at e; omega)
          have HIA := hid_of (HI.out.same hkAa)
          have HOA := hid_of hoa
          have hkB : Kept (fun _ => False) wa (wa.alloc (.cells #[] 41)) := (Kept.refl _ _).alloc _
          obtain ⟨rb, cb, wb, hrb, hob, hkb⟩ := app_ents (wa.alloc (.cells #[] 41)) _ wa.heap.size [] mo mc zs (own_noneE wa wa.heap.size (Nat.le_refl _)) (by rw [← HNM.out]; exact HM.out.kept (HK1.out.trans (HIA.out.kept.trans hkB)) (fun _ _ f => f)) HFZ.out hkB.size (by simp; omega) (by rw [← HNM.out]; exact HMO.out)
          rw [List.nil_append, ← HNM.out] at hrb hob
          have hkBb : Kept (fun _ => False) wa wb := kept_new hkb (fun k e => by simp [Value.ownBlock] at e; omega)
          have HIB := hid_of (HIA.out.same hkBb)
          have HOAB := hid_of (hkBb.ownsRow hoa (fun _ _ f => f))
          have HOB := hid_of hob
          have HSA := hid_of hkAa.size
          have HBK : Hid (∀ q, Blk bs q → q < w2.heap.size) := fun q hq => HI.out.b.blk hq
          have HRK : Hid (∀ q, Blk rs q → q < w2.heap.size) := fun q hq => HI.out.r.blk hq
          clear hkA hoa hka hkAa hkB hob hkb hkBb HI HIA HOA
          go_wp2_with (first | (at_builtin; refine wp_app2 rfl (.tmp 138) (.tmp 139) 22 22 rfl _ _ rfl rfl _ _ hra ?_) | (at_builtin; refine wp_app2 rfl (.tmp 141) (.tmp 142) 22 22 rfl _ _ rfl rfl _ _ hrb ?_))
          clear hra hrb
          refine (grownE_any u8 rs wb HIB.out.r HIB.out.r0 (by have := HRS.out; omega) HIB.out.rl).mono ?_
          rintro e w3 ⟨rfl, hk3⟩
          have HK3 := hid_of (HIB.out.kept.step hk3 (fun q hq e => by have := HIB.out.rb q e; omega))
          have HB3 := hid_of (HIB.out.b.kept hk3 (fun q hq ⟨i, hi, e⟩ => own_apart HIB.out.b.row (HIB.out.r.own i hi) (by decide) hq e) (fun q ⟨i, hi, e⟩ ⟨i', hi', e'⟩ => own_apart (HIB.out.b.own i hi) (HIB.out.r.own i' hi') (by decide) e e'))
          have HOA3 := hid_of (hk3.ownsRow HOAB.out (fun q hq e => by have h1 := (HOAB.out.lt q hq).1; have h2 := HRK.out q e; omega))
          have HOB3 := hid_of (hk3.ownsRow HOB.out (fun q hq e => by have h1 := (HOB.out.lt q hq).1; have h2 := HRK.out q e; have := HSA.out; omega))
          clear hk3 HOAB HOB
          go_wp2_with fail
          refine (grownB_any u7 bs w3 HB3.out HIB.out.b0 (by have := HBS.out; omega) HIB.out.bl).mono ?_
          rintro e w4 ⟨rfl, hk4⟩
          have HK4 := hid_of (HK3.out.step hk4 (fun q hq e => by have := HIB.out.bb q e; omega))
          have HOA4 := hid_of (hk4.ownsRow HOA3.out (fun q hq e => by have h1 := (HOA3.out.lt q hq).1; have h2 := HBK.out q e; omega))
          have HOB4 := hid_of (hk4.ownsRow HOB3.out (fun q hq e => by have h1 := (HOB3.out.lt q hq).1; have h2 := HBK.out q e; have := HSA.out; omega))
          have hS := same_any (.slice lo nl lc) (.slice ra nl ca) ys ys w4 (HL.out.kept (HK1.out.trans HK4.out) (fun _ _ f => f)) (rowE_own (by rw [← HNL.out]; exact HOA4.out) HFY.out) HFY.out HFY.out (by have := HYL.out; omega)
          rw [sameL_refl] at hS
          have HS := hid_of hS
          clear hk4 hS HOA3 HOB3 HK3 HB3 HIB HBK HRK HBS HRS
          go_wp2_with fail
          refine HS.out.mono ?_
          rintro e w5 ⟨rfl, hk5⟩
          have HK5 := hid_of (HK4.out.trans hk5)
          have hS := same_any (.slice mo nm mc) (.slice rb nm cb) zs zs w5 (HM.out.kept (HK1.out.trans HK5.out) (fun _ _ f => f)) (rowE_own (by rw [← HNM.out]; exact hk5.ownsRow HOB4.out (fun _ _ f => f)) HFZ.out) HFZ.out HFZ.out (by have := HZL.out; omega)
          rw [sameL_refl] at hS
          have HS2 := hid_of hS
          clear hk5 hS HS HK4 HOA4 HOB4
          go_wp2_with fail
          refine HS2.out.mono ?_
          rintro e w6 ⟨rfl, hk6⟩
          have HK6 := hid_of (HK1.out.trans (HK5.out.trans hk6))
          have hV := moved_any lo lc ys s w6 (by rw [← HNL.out]; exact HL.out.kept HK6.out (fun _ _ f => f)) HYO.out (by rw [← HNL.out]; exact HLO.out) HYL.out
          rw [← HNL.out] at hV
          have HV := hid_of hV
          clear hk6 hV HS2 HK5
          go_wp2_with fail
          refine HV.out.mono ?_
          rintro e w7 ⟨rfl, hk7⟩
          have HK7 := hid_of (HK6.out.trans hk7)
          clear hk7 HV HK6
          go_wp2
          go_ret
          exact ⟨rfl, HK7.out⟩
    · have hb : (e2 == 0) = false := by simp; exact h2
      have hb2 : (e2 != 0) = true := by simp; exact h2
      go_wp2
      go_ret
      exact ⟨rfl, HK1.out⟩
  · have hb : (e1 == 0) = false := by simp; exact h1
    have hb2 : (e1 != 0) = true := by simp; exact h1
    go_wp2
    go_ret
    exact ⟨rfl, HK1'.out⟩
end Go.Proofs.YtcpkbajmilkhpabGreatDoor

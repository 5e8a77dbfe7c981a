import Derived.Test.YtgoabnehdmdikaaGreatDoorTLg17
import Derived.Test.YtgoabnehdmdikaaGreatDoorTLg16
import Derived.Test.YtgoabnehdmdikaaGreatDoorTLg10
set_option linter.unusedVariables false
set_option linter.unusedSimpArgs false
set_option maxRecDepth 100000
set_option maxHeartbeats 64000000
namespace Go.Proofs.YtgoabnehdmdikaaGreatDoor
open Go.RowKit
theorem Zhp (bs : List UInt8) (k : Nat) (hk : k ≤ 15) (h : ∀ c ∈ bs.take k, 0 ≤ Zz c.toNat) : 0 ≤ Xs (bs.take k) ∧ Xs (bs.take k) < 1152921504606846976 := by
 have h1 := Zi9 (bs.take k).length (bs.take k) rfl h
 refine ⟨h1.1, ?_⟩
 have h2 : (16 : Int) ^ (bs.take k).length ≤ 16 ^ 15 := by
  have : (16 : Nat) ^ (bs.take k).length ≤ 16 ^ 15 := Nat.pow_le_pow_right (by omega) (by rw [List.length_take]; omega)
  exact_mod_cast this
 have h3 : (16 : Int) ^ 15 = 1152921504606846976 := by decide
 omega
theorem Zm0 (D : ByteArray) (bs : List UInt8) (hD : D.data.toList = 48 :: 120 :: bs) (hm : D.size ≤ 9000000) (hs : 2 < D.size) (w : World) :
  Calls Tryz.prog 63 #[.string D] w (Zcy (Xm bs) (wrap64 (Xs bs)) false w) := by
 have hdl : bs.length + 2 = D.size := by rw [Lib.size_eq, hD]; simp
 have hdg : ∀ (j : Nat) (hj : j + 2 < D.size), bs[j]'(by omega) = D[j + 2]'hj := fun j hj => by
  have : D[j + 2]'hj = (D.data.toList)[j + 2]'(by rw [hD]; simp; omega) := rfl
  rw [this]
  simp [hD]
 have hi0 := fun w => Yo D 0 0 48 rfl (by omega) (by
  have : D[0]'(by omega) = (D.data.toList)[0]'(by rw [hD]; simp) := rfl
  rw [this]
  simp [hD]) w
 have hi1 := fun w => Yo D 1 1 120 rfl (by omega) (by
  have : D[1]'(by omega) = (D.data.toList)[1]'(by rw [hD]; simp) := rfl
  rw [this]
  simp [hD]) w
 have hz2 : (2 : Int) < D.size := by omega
 have hz3 : (0 : Int) < D.size := by omega
 have hz4 : (1 : Int) < D.size := by omega
 have hBAD : ∀ c ∈ bs, Zz c.toNat < 0 → Xm bs = false := fun c hc hn => by
  by_cases h : Xm bs = true
  ·have := (Zja bs h).2.2 c hc
   omega
  ·simpa using h
 have hGOOD : (∀ c ∈ bs, 0 ≤ Zz c.toNat) → Xm bs = decide (D.size ≤ 18) := fun hc => by
  unfold Xm
  rw [show bs.isEmpty = false by cases bs with
   | nil => simp at hdl; omega
   | cons _ _ => rfl]
  rw [show bs.all (fun c => decide (0 ≤ Zz c.toNat)) = true from List.all_eq_true.2 (fun c h => decide_eq_true (hc c h))]
  have : decide (bs.length ≤ 16) = decide (D.size ≤ 18) := by rw [decide_eq_decide]; omega
  rw [this]
  simp
 have HDG := Za hdg
 have HBAD := Za hBAD
 have HGOOD := Za hGOOD
 clear hD hdg hBAD hGOOD
 generalize Xm bs = ok at *
 obtain ⟨vz, hvz⟩ := nmd (wrap64 (Xs bs))
 rw [← hvz]
 have HVZ := Za hvz
 clear hvz
 go_enter Tryz.func63, Tryz.ntmps63
 go_wp2
 go_loop [6, 7] (fun vu vi => ∃ (k : Nat) (a : Int), vu = .int .u64 a ∧ vi = .int .i64 (k : Int) ∧ 2 ≤ k ∧ k ≤ D.size ∧ Hid (0 ≤ a ∧ a < 18446744073709551616 ∧ (∀ c ∈ bs.take (k - 2), 0 ≤ Zz c.toNat) ∧ (D.size ≤ 18 → a = Xs (bs.take (k - 2)))))
  (fun _ vi => D.size - (intOf vi).toNat)
 case atStart => exact ⟨2, 0, rfl, rfl, by omega, by omega, by omega, by omega, by simp, fun _ => rfl⟩
 case round =>
  obtain ⟨k, a, rfl, rfl, hk2, hk, hh⟩ := hrel
  obtain ⟨a0, a1, hdk, hval⟩ := hh.out
  clear hh
  by_cases hkn : k < D.size
  ·obtain ⟨c, hc⟩ := nmd (D[k]'hkn)
   have hck : bs[k - 2]'(by omega) = c := by
    rw [hc, HDG.out (k - 2) (by omega)]
    congr 1
    omega
   obtain ⟨x, hx⟩ : ∃ x : Int, x = (c.toNat : Int) := ⟨_, rfl⟩
   have hik := fun w => Yo D k (k : Int) x rfl hkn (by rw [hx, hc]) w
   have hmem : c ∈ bs := by rw [← hck]; exact List.getElem_mem _
   have htk : bs.take (k + 1 - 2) = bs.take (k - 2) ++ [c] := by rw [show k + 1 - 2 = (k - 2) + 1 by omega, Zag bs (k - 2) (by omega), hck]
   have hc256 : c.toNat < 256 := c.toNat_lt
   have HHX := Za (fun w => Zq7 x (by omega) (by omega) w)
   have hB := HBAD.out c hmem
   rw [← hx] at hB
   have h16 := Zeo x
   have hdk2 : 0 ≤ Zz x → ∀ c' ∈ bs.take (k + 1 - 2), 0 ≤ Zz c'.toNat := fun h0 c' hc' => by
    rw [htk, List.mem_append] at hc'
    rcases hc' with h | h
    ·exact hdk c' h
    ·simp at h; rw [h, ← hx]; exact h0
   have hval2 : D.size ≤ 18 → a * 16 + Zz x = Xs (bs.take (k + 1 - 2)) ∧ a < 1152921504606846976 := fun h18 => by
    have h3 := Zhp bs (k - 2) (by omega) hdk
    rw [htk, Zef, hval h18, ← hx]
    exact ⟨rfl, h3.2⟩
   clear hc hck htk hmem hdk hval hx
   generalize Zz x = h at *
   by_cases hn : h < 0
   ·have hok : ok = false := hB hn
    subst hok
    clear hB hdk2 hval2
    go_wp2_with fail
    refine (HHX.out _).mono ?_
    rintro e w1 ⟨rfl, hw⟩
    have hw := hw.symm
    subst hw
    go_wp2
    all_goals (try simp only [Exit.inBlock, Exit.then])
    all_goals refine bodyPost_ret (results_tmp3 rfl _ _ _) rfl ?_
    all_goals exact ⟨0, false, rfl, (fun h => by cases h), rfl⟩
   ·have hn0 : 0 ≤ h := by omega
    have HD2 := Za (hdk2 hn0)
    have HV2 := Za hval2
    by_cases hov : a < 1152921504606846976
    ·have hov2 : a * 16 < 18446744073709551616 := by omega
     have hov3 : a * 16 + h < 18446744073709551616 := by omega
     clear hB hdk2 hval2
     go_wp2_with (go_at_call 89; refine (HHX.out _).mono ?_; rintro e w1 ⟨rfl, rfl⟩)
     refine ⟨⟨k + 1, a * 16 + h, rfl, (by first | rfl | (congr 1; omega)), by omega, by omega, ⟨by omega, by omega, HD2.out, fun h18 => (HV2.out h18).1⟩⟩, by simp [intOf]; omega⟩
    ·have h18 : ¬ D.size ≤ 18 := fun h => hov (hval2 h).2
     have HW := Za (fun z : Int => (by rw [IntKind.wrap_u64]; omega : 0 ≤ IntKind.u64.wrap z ∧ IntKind.u64.wrap z < 18446744073709551616))
     clear hB hdk2 hval2
     go_wp2_with (go_at_call 89; refine (HHX.out _).mono ?_; rintro e w1 ⟨rfl, rfl⟩)
     refine ⟨⟨k + 1, _, rfl, (by first | rfl | (congr 1; omega)), by omega, by omega, ⟨(HW.out _).1, (HW.out _).2, HD2.out, fun h => absurd h h18⟩⟩, by simp [intOf]; omega⟩
  ·have hkk : k = D.size := by omega
   subst hkk
   rw [List.take_of_length_le (show bs.length ≤ D.size - 2 by omega)] at hdk hval
   have hok := HGOOD.out hdk
   by_cases h18 : D.size ≤ 18
   ·rw [decide_eq_true h18] at hok
    subst hok
    have hv := HVZ.out
    rw [← hval h18] at hv
    subst hv
    have h18i : (D.size : Int) ≤ 18 := by omega
    clear hkn hdk hval
    go_wp2
    (try simp only [Exit.inBlock, Exit.then])
    refine bodyPost_ret (results_tmp3 rfl _ _ _) rfl ?_
    exact ⟨_, false, rfl, fun _ => ⟨rfl, fun _ => rfl⟩, rfl⟩
   ·rw [decide_eq_false h18] at hok
    subst hok
    have h18i : ¬ (D.size : Int) ≤ 18 := by omega
    clear hkn hdk hval
    go_wp2
    (try simp only [Exit.inBlock, Exit.then])
    refine bodyPost_ret (results_tmp3 rfl _ _ _) rfl ?_
    exact ⟨_, false, rfl, (fun h => by cases h), rfl⟩
theorem Zdj (D : ByteArray) (l : List UInt8) (h : D.data.toList = l) (i : Nat) (hi : i < D.size) : D[i]'hi = l[i]'(by rw [← h, ← Lib.size_eq]; exact hi) := by subst h; rfl
theorem Zm1 (w : World) : Calls Tryz.prog 63 #[.string ⟨#[]⟩] w (Zcy false 0 false w) := by
 go_enter Tryz.func63, Tryz.ntmps63
 go_wp2
 refine wp_loop_rounds 1 ?_
 rw [rounds_succ]
 go_wp2
 (try simp only [Exit.inBlock, Exit.then])
 refine bodyPost_ret (results_tmp3 rfl _ _ _) rfl ?_
 exact ⟨0, false, rfl, (fun h => by cases h), rfl⟩
theorem Zhq (l : List UInt8) (h : Lib.hasPrefix l [48, 120] = true) : ∃ r, l = 48 :: 120 :: r := by
 match l, h with
 | [], h => simp [Lib.hasPrefix] at h
 | [a], h => simp [Lib.hasPrefix, List.isPrefixOf] at h
 | a :: b :: r, h =>
  simp [Lib.hasPrefix, List.isPrefixOf] at h
  exact ⟨r, by rw [← h.1, ← h.2]⟩
theorem Zf5 (t : ByteArray) (hm : t.size ≤ 9000000) (w : World) :
  Calls Tryz.prog 63 #[.string t] w (Zcy (okN t.data.toList) (Xe t.data.toList) (Yv t.data.toList) w) := by
 obtain ⟨l, hl⟩ : ∃ l, t.data.toList = l := ⟨_, rfl⟩
 have hll : l.length = t.size := by rw [← hl, Lib.size_eq]
 rw [hl]
 match l, hl, hll with
 | [], hl, hll =>
  have ht : t = ⟨#[]⟩ := by
   obtain ⟨⟨x⟩⟩ := t
   simp at hl
   rw [hl]
  subst ht
  refine (Zm1 w).mono ?_
  rintro e w' ⟨n, f, rfl, _, hw⟩
  exact ⟨n, f, rfl, (fun h => absurd h (by decide)), hw⟩
 | c :: r, hl, hll =>
  by_cases h45 : c.toNat = 45
  ·have hc : c = 45 := UInt8.toNat_inj.1 (by rw [h45]; rfl)
   subst hc
   obtain ⟨D, hDe⟩ := nmd (t.extract 1 t.size)
   have hD : D.data.toList = r := by
    rw [hDe]
    simp only [ByteArray.data_extract, Array.toList_extract, List.extract]
    rw [hl]
    simp only [List.drop_succ_cons, List.drop_zero]
    exact List.take_of_length_le (by simp at hll; omega)
   have hz : 0 < t.size := by rw [← hll]; simp
   have h0 : (t[0]'hz).toNat = 45 := by rw [Zdj t _ hl 0 hz]; rfl
   have hds : D.size ≤ 9000000 := by rw [Lib.size_eq, hD]; simp at hll; omega
   have hNH : Zcp true r := .inl rfl
   show Calls Tryz.prog 63 #[.string t] w (Zcy (okN (sgn true r)) (Xe (sgn true r)) (Yv (sgn true r)) w)
   by_cases hs : D.size ≤ 2
   ·exact Zje t D r hD hDe hz h0 hds hNH hs w
   by_cases k0 : (D[0]'(by omega)).toNat = 48
   ·by_cases k1 : (D[1]'(by omega)).toNat = 120
    ·exact Zjx t D r hD hDe hz h0 hds hNH (by omega) k0 k1 w
    ·exact Zho t D r hD hDe hz h0 hds hNH (by omega) k0 k1 w
   ·exact Zjf t D r hD hDe hz h0 hds hNH (by omega) k0 w
  ·have hz : 0 < t.size := by rw [← hll]; simp
   have n45 : ∀ h : 0 < t.size, (t[0]'h).toNat ≠ 45 := fun h => by rw [Zdj t _ hl 0 h]; exact h45
   have hd45 : (c :: r).head? ≠ some 45 := by
    simp only [List.head?_cons, ne_eq, Option.some.injEq]
    intro e
    exact h45 (by rw [e]; rfl)
   show Calls Tryz.prog 63 #[.string t] w (Zcy (okN (sgn false (c :: r))) (Xe (sgn false (c :: r))) (Yv (sgn false (c :: r))) w)
   by_cases hs : t.size ≤ 2
   ·refine Zjv t _ hl hm (.inr ⟨hd45, ?_⟩) n45 hs hz w
    by_cases hp : Lib.hasPrefix (c :: r) [48, 120] = true
    ·right
     obtain ⟨r', e⟩ := Zhq _ hp
     rw [e] at hll ⊢
     simp at hll
     have : r' = [] := List.length_eq_zero_iff.1 (by omega)
     rw [this]
    ·left; simpa using hp
   by_cases k0 : (t[0]'(by omega)).toNat = 48
   ·by_cases k1 : (t[1]'(by omega)).toNat = 120
    ·obtain ⟨r', e⟩ : ∃ r', c :: r = 48 :: 120 :: r' := by
      match r, hl, hll with
      | [], _, hll => simp at hll; omega
      | b :: r', hl, _ =>
       rw [Zdj t _ hl 0 (by omega)] at k0
       rw [Zdj t _ hl 1 (by omega)] at k1
       simp at k0 k1
       have e1 : c = 48 := UInt8.toNat_inj.1 (by rw [k0]; rfl)
       have e2 : b = 120 := UInt8.toNat_inj.1 (by rw [k1]; rfl)
       exact ⟨r', by rw [e1, e2]⟩
     have hh := Zm0 t r' (by rw [hl, e]) hm (by omega) w
     show Calls Tryz.prog 63 #[.string t] w (Zcy (okN (c :: r)) (Xe (c :: r)) (Yv (c :: r)) w)
     rw [e]
     have hp : Lib.hasPrefix (48 :: 120 :: r') [48, 120] = true := by simp [Lib.hasPrefix, List.isPrefixOf]
     have ht : Lib.trimPrefix (48 :: 120 :: r') [48, 120] = r' := by unfold Lib.trimPrefix; rw [if_pos hp]; rfl
     rw [show okN (48 :: 120 :: r') = Xm r' by unfold okN; rw [if_pos hp, ht], show Xe (48 :: 120 :: r') = wrap64 (Xs r') by unfold Xe; rw [if_pos hp, ht], show Yv (48 :: 120 :: r') = false by unfold Yv; rw [hp]; rfl]
     exact hh
    ·refine Zjd t _ hl hm (.inr ⟨hd45, .inl ?_⟩) n45 (by omega) k0 k1 w
     by_cases hp : Lib.hasPrefix (c :: r) [48, 120] = true
     ·obtain ⟨r', e⟩ := Zhq _ hp
      rw [e] at hl
      exact absurd (by rw [Zdj t _ hl 1 (by omega)]; rfl) k1
     ·simpa using hp
   ·refine Zjw t _ hl hm (.inr ⟨hd45, .inl ?_⟩) n45 (by omega) k0 w
    by_cases hp : Lib.hasPrefix (c :: r) [48, 120] = true
    ·obtain ⟨r', e⟩ := Zhq _ hp
     rw [e] at hl
     exact absurd (by rw [Zdj t _ hl 0 (by omega)]; rfl) k0
    ·simpa using hp
end Go.Proofs.YtgoabnehdmdikaaGreatDoor
namespace Go.Proofs.YtgoabnehdmdikaaGreatDoor
open Go.RowKit
def Zfm (o : Option CS) : Option (List Pf) := match o with | none => none | some x => if Wl x = true then some (Xf x).ps else none
theorem Zcz (l : List UInt8) : Yc l = Zfm (Zy l ⟨[], 0, [], 0⟩) := rfl
theorem Zdn (b : UInt8) (l : List UInt8) (x : CS) (h : 4 ≤ x.st) : Zy (b :: l) x = match Yb x b.toNat with | none => none | some y => Zy l y := by
 rw [Zy, if_neg (by omega)]
 cases Yb x b.toNat <;> rfl
theorem Zjj (ps : List Pf) (un : List Int) (hi r : Int) : Yb ⟨ps, 4, un, hi⟩ r = Xd ⟨ps, 4, un, hi⟩ r := by
 unfold Yb
 rw [if_neg (by simp), if_pos rfl]
theorem Zm2 (ps : List Pf) (un : List Int) (hi r : Int) : Yb ⟨ps, 5, un, hi⟩ r = Wj ⟨ps, 5, un, hi⟩ r := by
 unfold Yb
 rw [if_neg (by simp), if_neg (by simp), if_pos rfl]
theorem Zs4 (ps : List Pf) (un : List Int) (hi r : Int) : Yb ⟨ps, 6, un, hi⟩ r = Wd ⟨ps, 6, un, hi⟩ r := by
 unfold Yb
 rw [if_neg (by simp), if_neg (by simp), if_neg (by simp), if_pos (.inl rfl)]
theorem Zs5 (ps : List Pf) (un : List Int) (hi r : Int) : Yb ⟨ps, 7, un, hi⟩ r = Wd ⟨ps, 7, un, hi⟩ r := by
 unfold Yb
 rw [if_neg (by simp), if_neg (by simp), if_neg (by simp), if_pos (.inr rfl)]
theorem Zeu (x : CS) (h : 4 ≤ x.st) : Zfm (some x) = none := by
 unfold Zfm Wl
 simp only
 rw [if_neg (show ¬ x.st = 2 by omega), if_neg (show ¬ x.st = 3 by omega), decide_eq_false (by omega)]
 rfl
theorem Zt1 (l : List UInt8) (ps : List Pf) (un : List Int) (hi : Int) : Zy (34 :: l) ⟨ps, 4, un, hi⟩ = Zy l ⟨ps ++ [⟨2, str un, 0, false⟩], 1, [], hi⟩ := by
 rw [Zdn _ _ _ (by simp), Zjj]
 rfl
theorem Zw0 (b : UInt8) (l : List UInt8) (ps : List Pf) (un : List Int) (hi : Int) (h : b.toNat < 32 ∨ 126 < b.toNat) : Zy (b :: l) ⟨ps, 4, un, hi⟩ = none := by
 rw [Zdn _ _ _ (by simp), Zjj]
 unfold Xd
 rw [if_neg (by omega), if_neg (by omega), if_pos (by omega)]
theorem Zt2 (b : UInt8) (l : List UInt8) (ps : List Pf) (un : List Int) (hi : Int) (h1 : b.toNat ≠ 34) (h2 : b.toNat ≠ 92) (h3 : 32 ≤ b.toNat) (h4 : b.toNat ≤ 126) : Zy (b :: l) ⟨ps, 4, un, hi⟩ = Zy l ⟨ps, 4, un ++ [(b.toNat : Int)], hi⟩ := by
 rw [Zdn _ _ _ (by simp), Zjj]
 unfold Xd
 rw [if_neg (by omega), if_neg (by omega), if_neg (by omega)]
theorem Zm3 (l : List UInt8) (ps : List Pf) (un : List Int) (hi : Int) : Zy (92 :: l) ⟨ps, 4, un, hi⟩ = Zy l ⟨ps, 5, un, hi⟩ := by
 rw [Zdn _ _ _ (by simp), Zjj]
 rfl
theorem Zvx (b : UInt8) (l : List UInt8) (ps : List Pf) (un : List Int) (hi : Int) (h : b.toNat = 34 ∨ b.toNat = 92) : Zy (b :: l) ⟨ps, 5, un, hi⟩ = Zy l ⟨ps, 4, un ++ [(b.toNat : Int)], hi⟩ := by
 rw [Zdn _ _ _ (by simp), Zm2]
 unfold Wj
 rw [if_pos (by omega)]
theorem e_x (l : List UInt8) (ps : List Pf) (un : List Int) (hi : Int) : Zy (120 :: l) ⟨ps, 5, un, hi⟩ = Zy l ⟨ps, 6, un, hi⟩ := by
 rw [Zdn _ _ _ (by simp), Zm2]
 rfl
theorem Zw1 (b : UInt8) (l : List UInt8) (ps : List Pf) (un : List Int) (hi : Int) (h1 : b.toNat ≠ 34) (h2 : b.toNat ≠ 92) (h3 : b.toNat ≠ 120) : Zy (b :: l) ⟨ps, 5, un, hi⟩ = none := by
 rw [Zdn _ _ _ (by simp), Zm2]
 unfold Wj
 rw [if_neg (by omega), if_neg (by omega)]
theorem Zs6 (b : UInt8) (l : List UInt8) (ps : List Pf) (un : List Int) (hi : Int) (h : 0 ≤ Zz b.toNat) : Zy (b :: l) ⟨ps, 6, un, hi⟩ = Zy l ⟨ps, 7, un, Zz b.toNat⟩ := by
 rw [Zdn _ _ _ (by simp), Zs4]
 unfold Wd
 rw [if_neg (by omega), if_pos rfl]
theorem Zw2 (b : UInt8) (l : List UInt8) (ps : List Pf) (un : List Int) (hi : Int) (h : 0 ≤ Zz b.toNat) : Zy (b :: l) ⟨ps, 7, un, hi⟩ = Zy l ⟨ps, 4, un ++ [Zbq hi (Zz b.toNat)], hi⟩ := by
 rw [Zdn _ _ _ (by simp), Zs5]
 unfold Wd
 rw [if_neg (by omega), if_neg (by simp)]
theorem Zs7 (b : UInt8) (l : List UInt8) (ps : List Pf) (un : List Int) (hi st : Int) (hst : st = 6 ∨ st = 7) (h : Zz b.toNat < 0) : Zy (b :: l) ⟨ps, st, un, hi⟩ = none := by
 rcases hst with rfl | rfl
 ·rw [Zdn _ _ _ (by simp), Zs4]
  unfold Wd
  rw [if_pos h]
 ·rw [Zdn _ _ _ (by simp), Zs5]
  unfold Wd
  rw [if_pos h]
def Into (bs : List UInt8) (a i : Nat) (un : List Int) : Prop := ∀ ps hi, ∃ hi', Zy (bs.drop a) ⟨ps, 4, [], hi⟩ = Zy (bs.drop i) ⟨ps, 4, un, hi'⟩
def Zcq (bs : List UInt8) (a : Nat) : Prop := ∀ ps hi, Zfm (Zy (bs.drop a) ⟨ps, 4, [], hi⟩) = none
def Shut (bs : List UInt8) (a i : Nat) (un : List Int) : Prop := ∀ ps hi, ∃ hi', Zy (bs.drop a) ⟨ps, 4, [], hi⟩ = Zy (bs.drop i) ⟨ps ++ [⟨2, str un, 0, false⟩], 1, [], hi'⟩
theorem Zad (bs : List UInt8) (i : Nat) (h : i < bs.length) : bs.drop i = bs[i] :: bs.drop (i + 1) := List.drop_eq_getElem_cons h
variable {bs : List UInt8} {a i : Nat} {un : List Int}
theorem Into.first : Into bs a a [] := fun ps hi => ⟨hi, rfl⟩
theorem Into.close (h : Into bs a i un) (hi : i < bs.length) (hc : bs[i] = 34) : Shut bs a (i + 1) un := fun ps z => by
 obtain ⟨z', e⟩ := h ps z
 exact ⟨z', by rw [e, Zad bs i hi, hc, Zt1]⟩
theorem Into.bad (h : Into bs a i un) (hi : i < bs.length) (hc : bs[i].toNat < 32 ∨ 126 < bs[i].toNat) : Zcq bs a := fun ps z => by
 obtain ⟨z', e⟩ := h ps z
 rw [e, Zad bs i hi, Zw0 _ _ _ _ _ hc]
 rfl
theorem Into.over (h : Into bs a i un) (hi : bs.length ≤ i) : Zcq bs a := fun ps z => by
 obtain ⟨z', e⟩ := h ps z
 rw [e, List.drop_of_length_le hi, Zy]
 exact Zeu _ (by simp)
theorem Into.plain (h : Into bs a i un) (hi : i < bs.length) (h1 : bs[i].toNat ≠ 34) (h2 : bs[i].toNat ≠ 92) (h3 : 32 ≤ bs[i].toNat) (h4 : bs[i].toNat ≤ 126) : Into bs a (i + 1) (un ++ [(bs[i].toNat : Int)]) := fun ps z => by
 obtain ⟨z', e⟩ := h ps z
 exact ⟨z', by rw [e, Zad bs i hi, Zt2 _ _ _ _ _ h1 h2 h3 h4]⟩
theorem Into.self (h : Into bs a i un) (hi : i + 1 < bs.length) (hc : bs[i]'(by omega) = 92) (h1 : bs[i + 1].toNat = 34 ∨ bs[i + 1].toNat = 92) : Into bs a (i + 2) (un ++ [(bs[i + 1].toNat : Int)]) := fun ps z => by
 obtain ⟨z', e⟩ := h ps z
 exact ⟨z', by rw [e, Zad bs i (by omega), hc, Zm3, Zad bs (i + 1) hi, Zvx _ _ _ _ _ h1]⟩
theorem Into.hex (h : Into bs a i un) (hi : i + 3 < bs.length) (hc : bs[i]'(by omega) = 92) (h1 : bs[i + 1]'(by omega) = 120) (h2 : 0 ≤ Zz (bs[i + 2]'(by omega)).toNat) (h3 : 0 ≤ Zz bs[i + 3].toNat) :
  Into bs a (i + 4) (un ++ [Zbq (Zz (bs[i + 2]'(by omega)).toNat) (Zz bs[i + 3].toNat)]) := fun ps z => by
 obtain ⟨z', e⟩ := h ps z
 exact ⟨_, by rw [e, Zad bs i (by omega), hc, Zm3, Zad bs (i + 1) (by omega), h1, e_x, Zad bs (i + 1 + 1) (by omega), Zs6 _ _ _ _ _ h2, Zad bs (i + 1 + 1 + 1) (by omega), Zw2 _ _ _ _ _ h3]⟩
theorem Into.wrong (h : Into bs a i un) (hi : i < bs.length) (hc : bs[i] = 92)
  (hw : ∀ h1 : i + 1 < bs.length, bs[i + 1].toNat ≠ 34 ∧ bs[i + 1].toNat ≠ 92 ∧ (bs[i + 1].toNat = 120 → ∀ h3 : i + 3 < bs.length, Zz (bs[i + 2]'(by omega)).toNat < 0 ∨ Zz bs[i + 3].toNat < 0)) : Zcq bs a := fun ps z => by
 obtain ⟨z', e⟩ := h ps z
 rw [e, Zad bs i hi, hc, Zm3]
 by_cases h1 : i + 1 < bs.length
 ·obtain ⟨n1, n2, n3⟩ := hw h1
  rw [Zad bs (i + 1) h1]
  by_cases hx : bs[i + 1].toNat = 120
  ·have hx' : bs[i + 1] = 120 := UInt8.toNat_inj.1 (by rw [hx]; rfl)
   rw [hx', e_x]
   by_cases h2 : i + 2 < bs.length
   ·rw [Zad bs (i + 1 + 1) h2]
    by_cases hn : Zz (bs[i + 1 + 1]'h2).toNat < 0
    ·rw [Zs7 _ _ _ _ _ 6 (.inl rfl) hn]
     rfl
    ·rw [Zs6 _ _ _ _ _ (by omega)]
     by_cases h3 : i + 3 < bs.length
     ·rw [Zad bs (i + 1 + 1 + 1) h3]
      have h4 : Zz (bs[i + 1 + 1 + 1]'h3).toNat < 0 := by
       rcases n3 hx h3 with h | h
       ·exact absurd h hn
       ·exact h
      rw [Zs7 _ _ _ _ _ 7 (.inr rfl) h4]
      rfl
     ·rw [List.drop_of_length_le (show bs.length ≤ i + 1 + 1 + 1 by omega), Zy]
      exact Zeu _ (by simp)
   ·rw [List.drop_of_length_le (show bs.length ≤ i + 1 + 1 by omega), Zy]
    exact Zeu _ (by simp)
  ·rw [Zw1 _ _ _ _ _ n1 n2 hx]
   rfl
 ·rw [List.drop_of_length_le (show bs.length ≤ i + 1 by omega), Zy]
  exact Zeu _ (by simp)
end Go.Proofs.YtgoabnehdmdikaaGreatDoor
namespace Go.Proofs.YtgoabnehdmdikaaGreatDoor
open Go.RowKit
theorem Zly {x y : CS} {r : Int} (h : Ye x r = some y) : ∀ p ∈ y.ps, p ∈ x.ps ∨ p.s.size = 0 := by
 unfold Ye at h
 repeat' split at h
 all_goals first | (cases h; done) | skip
 all_goals
  injection h with h
  subst h
  intro p hp
  simp only [List.mem_append, List.mem_singleton] at hp
  first
   | exact .inl hp
   | (
     rcases hp with hp | rfl
     ·exact .inl hp
     ·exact .inr rfl)
theorem Zlz (x : CS) : ∀ p ∈ (Xf x).ps, p ∈ x.ps ∨ p.s.size ≤ x.un.length := by
 intro p hp
 unfold Xf at hp
 split at hp
 ·simp only [List.mem_append, List.mem_singleton] at hp
  rcases hp with hp | rfl
  ·exact .inl hp
  ·exact .inr (by show (str x.un).size ≤ _; rw [Zbj]; exact Nat.le_refl _)
 ·split at hp
  ·simp only [List.mem_append, List.mem_singleton] at hp
   rcases hp with hp | rfl
   ·exact .inl hp
   ·exact .inr (Nat.zero_le _)
  ·exact .inl hp
theorem Zq8 {x y : CS} {r : Int} (h : Yb x r = some y) : ∀ p ∈ y.ps, p ∈ x.ps ∨ p.s.size ≤ x.un.length := by
 unfold Yb at h
 split at h
 ·split at h
  ·injection h with h
   subst h
   exact fun p hp => .inl hp
  ·split at h
   ·intro p hp
    rcases Zly h p hp with h1 | h1
    ·exact Zlz x p h1
    ·exact .inr (by omega)
   ·cases h
 ·split at h
  ·unfold Xd at h
   repeat' split at h
   all_goals first | (cases h; done) | skip
   all_goals
    injection h with h
    subst h
    intro p hp
    first
     | exact .inl hp
     | (
       simp only [List.mem_append, List.mem_singleton] at hp
       rcases hp with hp | rfl
       ·exact .inl hp
       ·exact .inr (by show (str x.un).size ≤ _; rw [Zbj]; exact Nat.le_refl _))
  ·split at h
   ·unfold Wj at h
    repeat' split at h
    all_goals first | (cases h; done) | skip
    all_goals
     injection h with h
     subst h
     exact fun p hp => .inl hp
   ·split at h
    ·unfold Wd at h
     repeat' split at h
     all_goals first | (cases h; done) | skip
     all_goals
      injection h with h
      subst h
      exact fun p hp => .inl hp
    ·intro p hp
     rcases Zly h p hp with h1 | h1
     ·exact .inl h1
     ·exact .inr (by omega)
theorem Zic (N : Nat) : ∀ (l : List UInt8) (x y : CS), Zy l x = some y → OkS x → (∀ p ∈ x.ps, p.s.size ≤ N) → x.un.length + l.length ≤ N → OkS y ∧ (∀ p ∈ y.ps, p.s.size ≤ N) ∧ y.un.length ≤ N ∧ mu y ≤ mu x + l.length
 | [], x, y, h, hx, hp, hu => by
  rw [Zy] at h
  cases h
  exact ⟨hx, hp, by simpa using hu, by simp⟩
 | b :: l, x, y, h, hx, hp, hu => by
  rw [Zy] at h
  simp only [List.length_cons] at hu ⊢
  split at h
  ·cases h
   exact ⟨hx, hp, by omega, by omega⟩
  ·cases ht : Yb x (b.toNat : Int) with
   | none => rw [ht] at h; cases h
   | some z =>
    rw [ht] at h
    obtain ⟨hz, hm, hn⟩ := Zn7 ht hx
    obtain ⟨h1, h2, h3, h4⟩ := Zic N l z y h hz (fun p hpz => by
     rcases Zq8 ht p hpz with h | h
     ·exact hp p h
     ·omega) (by omega)
    exact ⟨h1, h2, h3, by omega⟩
theorem Zdg {l : List UInt8} {ps : List Pf} (h : Yc l = some ps) : ps.length ≤ l.length + 1 ∧ ∀ p ∈ ps, p.s.size ≤ l.length := by
 unfold Yc at h
 cases hc : Zy l ⟨[], 0, [], 0⟩ with
 | none => rw [hc] at h; cases h
 | some x =>
  rw [hc] at h
  simp only at h
  split at h
  ·cases h
   obtain ⟨h1, h2, h3, h4⟩ := Zic l.length l _ x hc ⟨by decide, by decide, fun h => absurd h (by decide)⟩ (by simp) (by simp)
   refine ⟨?_, fun p hp => ?_⟩
   ·have h5 : (Xf x).ps.length ≤ mu x := by
     unfold Xf mu
     split
     ·rename_i e; simp [e]
     ·split
      ·rename_i e; simp [e]
      ·split <;> omega
    have h6 : mu (⟨[], 0, [], 0⟩ : CS) = 0 := rfl
    omega
   ·rcases Zlz x p hp with h | h
    ·exact h2 p h
    ·omega
  ·cases h
theorem Zev : ∀ (ps : List Pf), (Yl ps).1.length + (Yl ps).2.length ≤ ps.length ∧ ∀ p ∈ (Yl ps).2, p ∈ ps
 | [] => ⟨by simp [Yl], fun p h => h⟩
 | [p] => ⟨by simp [Yl], fun q h => h⟩
 | p :: q :: l => by
  by_cases h : p.k = 0 ∧ q.k = 3
  ·rw [Zfx p q l h]
   obtain ⟨h1, h2⟩ := Zev l
   simp only [List.length_cons]
   exact ⟨by omega, fun r hr => List.mem_cons_of_mem _ (List.mem_cons_of_mem _ (h2 r hr))⟩
  ·rw [Zfy p q l h]
   exact ⟨by simp, fun r hr => hr⟩
theorem Zog {a b : ByteArray} (h : a ≠ b) : (a.toList == b.toList) = false := by
 cases e : a.toList == b.toList with
 | false => rfl
 | true => exact absurd (Zei e) h
end Go.Proofs.YtgoabnehdmdikaaGreatDoor
namespace Go.Proofs.YtgoabnehdmdikaaGreatDoor
open Go.RowKit
variable {w0 w : World} {r gm : Nat} {R : Rdr} {NL : List (ByteArray × Int)} {dv fv lv wv : Value} {CV : List Value} {GM : List Nat}
theorem Zjy (ao : Option Addr) (c : Nat) (w : World) : Calls Tryz.prog 53 #[.slice ao 0 c] w fun e w' => e = .returned (.tuple #[.slice none 0 0, .slice ao 0 c]) ∧ w' = w := by
 go_enter Tryz.func53, Tryz.ntmps53
 go_wp2_with fail
 refine wp_loop_rounds 1 ?_
 rw [rounds_succ]
 go_wp2
 refine bodyPost_ret (results_tmp2 rfl _ _ _) rfl ?_
 exact ⟨rfl, rfl⟩
theorem Zdk {a b : ByteArray} (L : List UInt8) (hb : b.data.toList = L) (h : a ≠ b) : (a.toList == L) = false := by
 rw [← hb, ← ByteArray.toList_eq]
 exact Zog h
structure Rdr.Ok (R : Rdr) : Prop where
 fs : R.fs.length ≤ 80000
 code : ∀ f ∈ R.fs, f.code.length ≤ 90000
 ws : R.ws.length ≤ 90000
 data : R.data.length ≤ 100000000000000
 wf : ∀ x ∈ R.ws, x.fn < R.fs.length
theorem Zjz (g o n c : Nat) (ln : Int) (ps : List Pf) (B : Nat) (v : Value) (ls : List ByteArray) (h : RdG w0 w r R) (hP : FsAt w g o ps) (hn : n = ps.length) (hc : n ≤ c) (hnl : n ≤ 90000) (hv : w.ownsRow B 9 1 v ls.length (labs ls)) (hll : ls.length ≤ 90000) (hok : R.Ok) :
  Calls Tryz.prog 54 #[.pointer (some ⟨r, 0, none⟩), .int .i64 ln, v, .slice (some ⟨g, o, none⟩) n c] w (MethR w0 w r (Za1 R ln ls ps)) := by
 by_cases hf : R.fs = []
 ·rw [Zh8 R ln ls ps hf]
  exact Zod ln v _ h hf
 ·obtain ⟨m, hm⟩ : ∃ m, R.fs.length = m + 1 := ⟨R.fs.length - 1, by have := List.length_pos_iff.2 hf; omega⟩
  obtain ⟨gs, f, hfs, hgl⟩ := Zcv hm
  rw [Zgv R ln ls ps gs f hfs]
  have h1 := hok.fs
  exact Zwz g o n c ln ps B v ls gs f hfs h hP hn hc hnl hv (by omega) hll (hok.code f (by rw [hfs]; simp)) hok.ws
theorem Zw3 (ln : Int) (D : ByteArray) (hs : D.size ≤ 65536) (hG : Gs w) (h : RdG w0 w r R) (hok : R.Ok) :
  Calls Tryz.prog 38 #[.pointer (some ⟨r, 0, none⟩), .int .i64 ln, .string D] w (MethR w0 w r (Zb3 R ln (Yc D.data.toList))) := by
 have HCT := Za (Zxq D hs w hG)
 have HG := Za h
 have HOK := Za hok
 have HKW := Za h.kept
 obtain ⟨O, hO⟩ := nmd (Zb3 R ln (Yc D.data.toList))
 have HO := Za hO
 rw [← hO]
 have HDS : Hid (D.data.toList.length ≤ 65536) := by show _ ≤ 65536; rw [← Lib.size_eq]; exact hs
 clear hO h hok hG hs
 go_enter Tryz.func38, Tryz.ntmps38
 go_wp2_with fail
 refine HCT.out.mono ?_
 rintro e w1 ⟨v, b, rfl, hk1, hcase⟩
 have HK1 := Za hk1
 clear hk1 HCT
 rcases hcase with ⟨rfl, ps, hps, hown⟩ | ⟨rfl, hno⟩
 ·have HPS := Za hps
  obtain ⟨hb1, hb2⟩ := Zdg hps
  have HBD : Hid (ps.length ≤ 65537 ∧ ∀ p ∈ ps, p.s.size ≤ 65536) := ⟨by have := HDS.out; omega, fun p hp => by have := HDS.out; have := hb2 p hp; omega⟩
  have HE0 : Hid (O = if (Yl ps).1 = [] then Zes R ln (Yl ps).2 else Za1 R ln (Yl ps).1 (Yl ps).2) := by
   show O = _
   rw [HO.out, hps]
   rfl
  have HOW := Za hown
  clear hps hb1 hb2 hown HPS HO
  by_cases hp0 : ps = []
  ·obtain ⟨a, c, hv⟩ := Zd HOW.out
   have hv0 : v = .slice a 0 c := by rw [hv, hp0]; rfl
   subst hv0
   have HE : Hid (O = .good R) := by show O = _; rw [HE0.out, hp0]; rfl
   have HLN := Za (Zjy a c w1)
   clear hv HE0 hp0
   go_wp2_with fail
   refine HLN.out.mono ?_
   rintro e w2 ⟨rfl, hw⟩
   have hw := hw.symm
   subst hw
   go_wp2
   go_ret
   exact ⟨HKW.out.trans HK1.out, .inl ⟨R, HE.out, rfl, HG.out.same HK1.out, Kept.othG HK1.out⟩⟩
  ·obtain ⟨g, c, cs, hv, hnc, hg⟩ := Yw HOW.out (List.length_pos_iff.2 hp0)
   obtain ⟨n, hn⟩ := nmd (ps.length)
   rw [← hn] at hv hnc
   have how := HOW.out
   rw [hv, ← hn] at how
   have HLB := Za (Zp1 g 0 n c ps w1 (Zsk (hn ▸ how)) hn (by have := HBD.out.1; omega) hnc)
   have HGG := Za hg
   subst hv
   have HNN := Za hn
   clear how hg hp0 HOW hnc hn
   go_wp2_with fail
   refine HLB.out.mono ?_
   rintro e w2 ⟨lbv, rv, rfl, hlo, ⟨o1, c1, hrv, hc1, hF⟩, hk2⟩
   have HK2 := Za (HK1.out.trans hk2)
   have hlen := Zev ps
   have HG2 := Za (HG.out.same HK2.out)
   have HGG2 := Za (Zc hk2 HGG.out id)
   have HF2 := Za (hF.kept hk2 id)
   obtain ⟨ls, hls⟩ := nmd ((Yl ps).1)
   obtain ⟨qs, hqs⟩ := nmd ((Yl ps).2)
   rw [← hls] at hlo hlen
   rw [← hqs] at hrv hc1 hlen
   rw [← hqs] at HF2
   rw [← hls, ← hqs] at HE0
   have HLO := Za hlo
   have HBB : Hid (ls.length + qs.length ≤ 65537 ∧ ∀ p ∈ qs, p.s.size ≤ 65536) := ⟨by have := HBD.out.1; omega, fun p hp => HBD.out.2 p (hlen.2 p hp)⟩
   obtain ⟨n1, hn1⟩ := nmd (qs.length)
   rw [← hn1] at hrv hc1
   have HN1 := Za hn1
   have HC1 := Za hc1
   obtain ⟨la, lc, hlv⟩ := Zd hlo
   obtain ⟨nl, hnl⟩ := nmd (ls.length)
   rw [← hnl] at hlv
   have HNL := Za hnl
   have HLV := Za hlv
   subst hrv hlv
   have hn1I : (n1 : Int) ≤ 65537 := by have := HBB.out.1; have := HN1.out; omega
   have hnlI : (nl : Int) ≤ 65537 := by have := HBB.out.1; have := HNL.out; omega
   have HCD : Hid (Calls Tryz.prog 54 #[.pointer (some ⟨r, 0, none⟩), .int .i64 ln, .slice la nl lc, .slice (some ⟨g, o1, none⟩) n1 c1] w2 (MethR w0 w2 r (Za1 R ln ls qs))) := Zjz g o1 n1 c1 ln qs _ _ ls HG2.out HF2.out HN1.out HC1.out (by have := HBB.out.1; have := HN1.out; omega) HLO.out (by have := HBB.out.1; omega) HOK.out
   clear hlo hk2 hF hlen hls hqs hc1 hnl hn1 HLB HBD
   by_cases hl0 : ls = []
   ·have hz : nl = 0 := by rw [HNL.out, hl0]; rfl
    subst hz
    rw [if_pos hl0] at HE0
    cases qs with
    | nil =>
     have hz2 : n1 = 0 := HN1.out
     subst hz2
     have HE : Hid (O = .good R) := HE0.out
     clear HE0 hl0
     go_wp2
     go_ret
     exact ⟨HKW.out.trans HK2.out, .inl ⟨R, HE.out, rfl, HG2.out, Kept.othG HK2.out⟩⟩
    | cons p l =>
     have hp1 : (0 : Int) < (n1 : Int) := by have := HN1.out; simp only [List.length_cons] at this; omega
     have hp2 : ¬ (n1 : Int) = 0 := by omega
     have hp2' : ((n1 : Int) == 0) = false := by simp; omega
     have hc1I : (1 : Int) ≤ (c1 : Int) := by have := HC1.out; omega
     have p0 : w2.cell? ⟨g, o1, none⟩ = some (.int .i64 p.k) := HF2.out 0 _ rfl 0 _ rfl
     have p1 : w2.cell? ⟨g, o1 + 1, none⟩ = some (.string p.s) := HF2.out 0 _ rfl 1 _ rfl
     have HE1 : Hid (O = if p.k ≠ 0 then .bad 141 else if p.s = Zhk then Zch R l else if p.s = Zhl then Zdd R l else if p.s = Zhm then Zco R l else Za1 R ln [] (p :: l)) := HE0.out
     clear HE0
     by_cases hk : p.k = 0
     ·rw [if_neg (not_not_intro hk)] at HE1
      rw [hk] at p0
      have HL1 := Za (show FsAt w2 g (if c1 = 1 then o1 else o1 + 4) l by
       split
       ·have h1 := HC1.out
        have h2 := HN1.out
        simp only [List.length_cons] at h2
        rw [show l = [] from List.length_eq_zero_iff.1 (by omega)]
        exact fun i p hp => by simp at hp
       ·exact HF2.out.drop 1)
      obtain ⟨o2, ho2⟩ := nmd ((if c1 = 1 then o1 else o1 + 4))
      rw [← ho2] at HL1
      obtain ⟨n2, hn2⟩ := nmd (n1 - 1)
      obtain ⟨c2, hc2⟩ := nmd (c1 - 1)
      have HS1 : Hid (c1 = 1 → Value.slice (some ({ block := g, off := o1 } : Addr)) (n1 - 1) 0 = .slice (some ⟨g, o2, none⟩) n2 c2) := fun h => by
       rw [hn2, hc2, ho2, if_pos h, h]
      have HS2 : Hid (¬ c1 = 1 → Value.slice (some ({ block := g, off := o1 + 4 } : Addr)) (n1 - 1) (c1 - 1) = .slice (some ⟨g, o2, none⟩) n2 c2) := fun h => by
       rw [hn2, hc2, ho2, if_neg h]
      have HN2 : Hid (n2 = l.length) := by have := HN1.out; simp only [List.length_cons] at this; show n2 = _; omega
      obtain ⟨dv, fv, lv, wv, gm, CV, GM, hX⟩ := HG2.out
      have HX := Za hX
      clear hX ho2 hn2 hc2 hl0
      by_cases hm : p.s = Zhk
      ·rw [if_pos hm] at HE1
       rw [hm] at p1
       have HM := Za (Ztw g o2 n2 c2 l cs HX.out HL1.out HGG2.out HN2.out (by have := HOK.out.fs; omega) (by have := HN2.out; have := HBB.out.1; simp only [List.length_cons] at this; omega))
       clear hm
       go_wp2_with fail
       ·rw [HS1.out (by assumption)]
        refine HM.out.mono ?_
        rintro e w3 hm
        rw [← HE1.out] at hm
        have HM3 := Za hm
        obtain ⟨_, ⟨R', _, rfl, _, _⟩ | ⟨k, _, rfl⟩⟩ := hm
        ·go_wp2
         go_ret
         exact HM3.out.from (Kept.othG HK2.out)
        ·go_wp2
         go_ret
         exact HM3.out.from (Kept.othG HK2.out)
       ·rw [HS2.out (by assumption)]
        refine HM.out.mono ?_
        rintro e w3 hm
        rw [← HE1.out] at hm
        have HM3 := Za hm
        obtain ⟨_, ⟨R', _, rfl, _, _⟩ | ⟨k, _, rfl⟩⟩ := hm
        ·go_wp2
         go_ret
         exact HM3.out.from (Kept.othG HK2.out)
        ·go_wp2
         go_ret
         exact HM3.out.from (Kept.othG HK2.out)
      rw [if_neg hm] at HE1
      by_cases hd : p.s = Zhl
      ·rw [if_pos hd] at HE1
       rw [hd] at p1
       have HM := Za (Zwy g o2 n2 c2 l cs HX.out HL1.out HGG2.out HN2.out (by have := HOK.out.fs; omega) (by have := HN2.out; have := HBB.out.1; simp only [List.length_cons] at this; omega) (by have := HOK.out.data; omega) (fun q hq => HBB.out.2 q (List.mem_cons_of_mem _ hq)))
       clear hm hd
       go_wp2_with fail
       ·rw [HS1.out (by assumption)]
        refine HM.out.mono ?_
        rintro e w3 hm
        rw [← HE1.out] at hm
        have HM3 := Za hm
        obtain ⟨_, ⟨R', _, rfl, _, _⟩ | ⟨k, _, rfl⟩⟩ := hm
        ·go_wp2
         go_ret
         exact HM3.out.from (Kept.othG HK2.out)
        ·go_wp2
         go_ret
         exact HM3.out.from (Kept.othG HK2.out)
       ·rw [HS2.out (by assumption)]
        refine HM.out.mono ?_
        rintro e w3 hm
        rw [← HE1.out] at hm
        have HM3 := Za hm
        obtain ⟨_, ⟨R', _, rfl, _, _⟩ | ⟨k, _, rfl⟩⟩ := hm
        ·go_wp2
         go_ret
         exact HM3.out.from (Kept.othG HK2.out)
        ·go_wp2
         go_ret
         exact HM3.out.from (Kept.othG HK2.out)
      rw [if_neg hd] at HE1
      by_cases hf : p.s = Zhm
      ·rw [if_pos hf] at HE1
       rw [hf] at p1
       have HM := Za (Zob g o2 n2 c2 l cs HX.out HL1.out HGG2.out HN2.out HOK.out.fs (by have := HN2.out; have := HBB.out.1; simp only [List.length_cons] at this; omega) HOK.out.wf)
       clear hm hd hf
       go_wp2_with fail
       ·rw [HS1.out (by assumption)]
        refine HM.out.mono ?_
        rintro e w3 hm
        rw [← HE1.out] at hm
        have HM3 := Za hm
        obtain ⟨_, ⟨R', _, rfl, _, _⟩ | ⟨k, _, rfl⟩⟩ := hm
        ·go_wp2
         go_ret
         exact HM3.out.from (Kept.othG HK2.out)
        ·go_wp2
         go_ret
         exact HM3.out.from (Kept.othG HK2.out)
       ·rw [HS2.out (by assumption)]
        refine HM.out.mono ?_
        rintro e w3 hm
        rw [← HE1.out] at hm
        have HM3 := Za hm
        obtain ⟨_, ⟨R', _, rfl, _, _⟩ | ⟨k, _, rfl⟩⟩ := hm
        ·go_wp2
         go_ret
         exact HM3.out.from (Kept.othG HK2.out)
        ·go_wp2
         go_ret
         exact HM3.out.from (Kept.othG HK2.out)
      rw [if_neg hf] at HE1
      have e1 := Zdk [109, 101, 109, 111, 114, 121] rfl hm
      have e2 := Zdk [100, 97, 116, 97] rfl hd
      have e3 := Zdk [102, 117, 110, 99] rfl hf
      have HCN : Hid (Calls Tryz.prog 54 #[.pointer (some ⟨r, 0, none⟩), .int .i64 ln, .slice none 0 0, .slice (some ⟨g, o1, none⟩) n1 c1] w2 (MethR w0 w2 r (Za1 R ln [] (p :: l)))) := Zjz g o1 n1 c1 ln (p :: l) 0 _ [] HG2.out HF2.out HN1.out HC1.out (by have := HBB.out.1; have := HN1.out; omega) (World.ownsRow_nil _ _ _ _) (by simp) HOK.out
      obtain ⟨ps', hps'⟩ := nmd (p.s)
      rw [← hps'] at p1 e1 e2 e3
      clear hm hd hf hps'
      go_wp2_with fail
      refine HCN.out.mono ?_
      rintro e w3 hm
      rw [← HE1.out] at hm
      have HM3 := Za hm
      obtain ⟨_, ⟨R', _, rfl, _, _⟩ | ⟨k, _, rfl⟩⟩ := hm
      ·go_wp2
       go_ret
       exact HM3.out.from (Kept.othG HK2.out)
      ·go_wp2
       go_ret
       exact HM3.out.from (Kept.othG HK2.out)
     ·have HE : Hid (O = .bad 141) := by
       show O = _
       rw [HE1.out, if_pos hk]
      have hk' : (p.k != 0) = true := by simp; exact hk
      obtain ⟨pk, hpk⟩ := nmd (p.k)
      rw [← hpk] at p0 hk'
      clear HE1 hl0 hk hpk
      go_wp2
      go_ret
      exact ⟨HKW.out.trans HK2.out, .inr ⟨_, HE.out, rfl⟩⟩
   ·have hz : (0 : Int) < (nl : Int) := by have := List.length_pos_iff.2 hl0; have := HNL.out; omega
    have hz2 : ¬ (nl : Int) = 0 := by omega
    have hz3 : ((nl : Int) == 0) = false := by simp; omega
    rw [if_neg hl0] at HE0
    clear hl0
    go_wp2_with fail
    refine HCD.out.mono ?_
    rintro e w3 hm
    rw [← HE0.out] at hm
    have HM3 := Za hm
    have hm2 := hm
    obtain ⟨_, ⟨R', _, rfl, _, _⟩ | ⟨k, _, rfl⟩⟩ := hm
    ·go_wp2
     go_ret
     exact HM3.out.from (Kept.othG HK2.out)
    ·go_wp2
     go_ret
     exact HM3.out.from (Kept.othG HK2.out)
 ·have HE : Hid (O = .bad 141) := by
   show O = _
   rw [HO.out, hno]
   rfl
  clear hno
  go_wp2
  go_ret
  exact ⟨HKW.out.trans HK1.out, .inr ⟨_, HE.out, rfl⟩⟩
end Go.Proofs.YtgoabnehdmdikaaGreatDoor

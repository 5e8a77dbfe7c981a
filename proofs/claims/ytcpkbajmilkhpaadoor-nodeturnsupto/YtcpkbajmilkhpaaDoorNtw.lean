/-
  NodeTurns: the walk.
-/
import Derived.Test.YtcpkbajmilkhpaaDoorNre
import Derived.Test.YtcpkbajmilkhpaaDoorNbz
import Derived.Laws.BitsAllLaws
namespace Go.Proofs.YtcpkbajmilkhpaaDoor
open Go.RowKit
set_option linter.unusedVariables false
set_option linter.unusedSimpArgs false
set_option maxRecDepth 100000

set_option maxRecDepth 100000 in
set_option maxHeartbeats 1000000 in
theorem round5_any (x n : Int) (w : World) (h0 : -9223372036854775808 ≤ x) (h1 : x ≤ 9223372036854775807) (hn : 0 < n) (hn' : n ≤ 4611686018427387904) :
    Calls Tryd.prog 21 #[.int .i64 x, .int .i64 n] w fun e w' => e = .returned (.int .i64 (x % n)) ∧ w' = w := by
  have hz : (n == 0) = false := by simp; omega
  by_cases hx : 0 ≤ x
  · have e := Int.tmod_eq_emod_of_nonneg (b := n) hx
    have HE := hid_of e
    clear e
    have l1 := Int.emod_nonneg x (show n ≠ 0 by omega)
    have l2 := Int.emod_lt_of_pos x hn
    go_enter Tryd.func21, Tryd.ntmps21
    go_wp2
    go_ret
    exact ⟨rfl, rfl⟩
  · have e : x.tmod n = -((-x) % n) := by
      have h : x = -(-x) := by omega
      rw [h, Int.neg_tmod, Int.tmod_eq_emod_of_nonneg (by omega), Int.neg_neg]
    have l1 := Int.emod_nonneg (-x) (show n ≠ 0 by omega)
    have l2 := Int.emod_lt_of_pos (-x) hn
    have t1 : -n < x.tmod n := by omega
    have t2 : x.tmod n ≤ 0 := by omega
    have f : x % n = if x.tmod n < 0 then x.tmod n + n else x.tmod n := by
      rw [Int.emod_eq_tmod]
      by_cases hd : n ∣ x
      · have z := Int.tmod_eq_zero_of_dvd hd
        rw [if_pos (.inr hd), if_neg (by omega)]
        omega
      · have z : x.tmod n ≠ 0 := fun h => hd (Int.dvd_of_tmod_eq_zero h)
        rw [if_neg (by intro h; rcases h with h | h; exact hx h; exact hd h), if_pos (by omega)]
        omega
    have HF := hid_of f
    clear e l1 l2 f
    by_cases ht : x.tmod n < 0
    · go_enter Tryd.func21, Tryd.ntmps21
      go_wp2
      go_ret
      refine ⟨?_, rfl⟩
      rw [HF.out, if_pos ht]
      rfl
    · go_enter Tryd.func21, Tryd.ntmps21
      go_wp2
      go_ret
      refine ⟨?_, rfl⟩
      rw [HF.out, if_neg (by omega)]
      rfl

theorem IsB.take {w : World} {g o n c : Nat} {xs : List Int} (h : IsB w (.slice (some ⟨g, o, none⟩) xs.length c) xs) (k c' : Nat) (hk : k ≤ xs.length) : IsB w (.slice (some ⟨g, o, none⟩) k c') (xs.take k) := by
  have hl : (xs.take k).length = k := by rw [List.length_take]; omega
  rcases h with ⟨e, _⟩ | ⟨g', o', c2, e, hc⟩
  · subst e
    have : k = 0 := by simpa using hk
    subst this
    exact .inl ⟨rfl, _, _, rfl⟩
  · cases e
    refine .inr ⟨g, o, c', by rw [hl], fun i hi => ?_⟩
    rw [hl] at hi
    rw [hc i (by omega)]
    simp [List.getD, List.getElem?_take, hi]
theorem IsB.drop {w : World} {g o c : Nat} {xs : List Int} (h : IsB w (.slice (some ⟨g, o, none⟩) xs.length c) xs) (k c' : Nat) (hk : k ≤ xs.length) : IsB w (.slice (some ⟨g, o + k, none⟩) (xs.length - k) c') (xs.drop k) := by
  have hl : (xs.drop k).length = xs.length - k := List.length_drop
  rcases h with ⟨e, _⟩ | ⟨g', o', c2, e, hc⟩
  · subst e
    refine .inl ⟨by simp, some ⟨g, o + k, none⟩, c', ?_⟩
    simp
  · cases e
    refine .inr ⟨g, o + k, c', by rw [hl], fun i hi => ?_⟩
    rw [hl] at hi
    rw [Nat.add_assoc, hc (k + i) (by omega)]
    simp [List.getD, List.getElem?_drop]

/-- A row of one's own, as NodeReads takes it. -/
theorem reads_own {w : World} {base : Nat} {v : Value} {xs : List Int} (h : w.ownsRow base 5 1 v xs.length (xs.map (Value.int .u8))) : ∃ ao c, v = .slice ao xs.length c ∧ IsB w (.slice ao xs.length c) xs ∧ Capd (.slice ao xs.length c) xs.length ∧ ∀ g, (Value.slice ao xs.length c).ownBlock = some g → g < w.heap.size := by
  have hib := isB_own h
  have hlt := h.lt
  rcases h.2 with ⟨rfl, h0⟩ | ⟨g, cap, cur, rfl, hb, hg, hnc, _⟩
  · have e : xs = [] := List.length_eq_zero_iff.1 h0
    subst e
    exact ⟨none, 0, rfl, hib, .inl rfl, fun g hg => (hlt g hg).2⟩
  · exact ⟨_, cap, rfl, hib, .inr ⟨_, cap, rfl, hnc⟩, fun g hg => (hlt g hg).2⟩

set_option maxHeartbeats 4000000 in
theorem turns_walk (ao : Option Addr) (c : Nat) (ys : List EV) (at' del : Int) (iv : Value) (ins : List Int) (w : World) (hv : RowE w (.slice ao ys.length c) ys) (hcap : ys.length ≤ c) (hcm : c ≤ 9223372036854775807) (hyok : ∀ y ∈ ys, y.Ok) (hnl : ∀ y ∈ ys, y.nm.length ≤ 9223372036854775807)
    (ha0 : -9223372036854775808 ≤ at') (ha1 : at' ≤ 9223372036854775807) (hd0 : -9223372036854775808 ≤ del) (hd1 : del ≤ 9223372036854775807) (hi : IsB w iv ins) (hib : ∀ x ∈ ins, 0 ≤ x ∧ x ≤ 255) (hil : ins.length ≤ 1048576) (hivl : ∀ g, iv.ownBlock = some g → g < w.heap.size) :
    Calls Tryd.prog 5 #[.slice ao ys.length c, .int .i64 at', .int .i64 del, iv] w fun e w' => e = .returned (.bool true) ∧ Kept (fun _ => False) w w' := by
  have HKN := hid_of (known_any w)
  have HV := hid_of hv
  have HYO := hid_of hyok
  have HNL := hid_of hnl
  have HI := hid_of hi
  have HIB := hid_of hib
  have HIVL := hid_of hivl
  obtain ⟨ny, hny⟩ : ∃ n, n = ys.length := ⟨_, rfl⟩
  have HNY := hid_of hny
  rw [← hny] at hcap ⊢
  clear hv hyok hnl hi hib hivl
  go_enter Tryd.func5, Tryd.ntmps5
  go_wp2_with fail
  refine HKN.out.mono ?_
  rintro e w1 ⟨rfl, hk1⟩
  have hEN := (encode_ref nameP nameRC nameP_nil nameP_len ao c ys w1 (HV.out.kept hk1 (fun _ _ f => f)) (by omega) hcm (fun y hy => (HYO.out y hy).fr) (fun y hy => (HYO.out y hy).frb) (fun y hy => ⟨(HYO.out y hy).nm, HNL.out y hy⟩) (fun y hy => (HYO.out y hy).k)).mono (fun e w' h => encR_out (fun hc => (right_enc HYO.out hc).1) h)
  rw [← hny] at hEN
  have HEN := hid_of hEN
  have HK1 := hid_of hk1
  clear hk1 hEN HKN hny
  go_wp2_with fail
  refine HEN.out.mono ?_
  rintro e w2 ⟨hk2, ⟨hc, pv, rfl, ho⟩ | ⟨hc, rfl⟩⟩
  · have HK2 := hid_of (HK1.out.trans hk2)
    obtain ⟨pg, pc, rfl, _, hpl, hpb, hpc⟩ := isR_own ho (fun e => by
      have := congrArg List.length e
      unfold encB at this
      rw [List.length_append] at this
      have h1 : (Mth.form 1).length = 1 := rfl
      simp [h1] at this)
    obtain ⟨_, hpB, hpL, _⟩ := right_enc HYO.out hc
    have hpi := isB_own ho
    clear ho hc hk2 HEN HK1
    generalize encB ys = ps at *
    obtain ⟨L, hL⟩ : ∃ L, L = ps.length := ⟨_, rfl⟩
    have HL := hid_of hL
    have HPB := hid_of hpB.1
    have HPI := hid_of hpi
    rw [← hL] at hpc hpL ⊢
    clear hL hpB hpi
    have hw1 : IntKind.i64.wrap ((L : Int) + 1) = (L : Int) + 1 := by simp [IntKind.wrap, IntKind.bits, IntKind.signed]; omega
    have l1 := Int.emod_nonneg at' (show (L : Int) + 1 ≠ 0 by omega)
    have l2 := Int.emod_lt_of_pos at' (show 0 < (L : Int) + 1 by omega)
    have HRA := hid_of (fun W => round5_any at' ((L : Int) + 1) W ha0 ha1 (by omega) (by omega))
    obtain ⟨k, hk⟩ : ∃ k : Nat, at' % ((L : Int) + 1) = (k : Int) := Int.eq_ofNat_of_zero_le l1
    rw [hk] at HRA l2
    have hkL : k ≤ L := by omega
    have m1 := Int.emod_nonneg del (show (9 : Int) ≠ 0 by decide)
    have m2 := Int.emod_lt_of_pos del (show (0 : Int) < 9 by decide)
    have HRD := hid_of (fun W => round5_any del 9 W hd0 hd1 (by decide) (by decide))
    obtain ⟨d, hd⟩ : ∃ d : Nat, del % 9 = (d : Int) := Int.eq_ofNat_of_zero_le m1
    rw [hd] at HRD m2
    have hd9 : d ≤ 8 := by omega
    have hw2 : IntKind.i64.wrap ((L : Int) - (k : Int)) = ((L - k : Nat) : Int) := by simp [IntKind.wrap, IntKind.bits, IntKind.signed]; omega
    clear l1 l2 m1 m2 hk hd
    go_wp2_with fail
    refine (HRA.out _).mono ?_
    rintro e w3 ⟨rfl, hw3⟩
    have hw3' := hw3.symm
    subst hw3'
    clear hw3 HRA
    go_wp2_with fail
    refine (HRD.out _).mono ?_
    rintro e w4 ⟨rfl, hw4⟩
    have hw4' := hw4.symm
    subst hw4'
    clear hw4 HRD
    by_cases hgt : L - k < d
    · obtain ⟨nn, hnn⟩ : ∃ nn : Nat, nn = L - k := ⟨_, rfl⟩
      rw [← hnn] at hw2 hgt
      have hgtI : (nn : Int) < (d : Int) := by omega
      have HNN := hid_of hnn
      clear hnn
      go_upto_region 11 with fail
      have hnn := HNN.out
      obtain ⟨q, hq⟩ : ∃ q, q = k + nn := ⟨_, rfl⟩
      have hkn : q ≤ L := by omega
      have hw3 : IntKind.i64.wrap ((k : Int) + (nn : Int)) = (q : Int) := by simp [IntKind.wrap, IntKind.bits, IntKind.signed]; omega
      clear hq
      clear hw2 hgt hgtI
      try clear hnn
      try clear hnk
      have hk0 : (0 : Int) ≤ (k : Int) := by omega
      have hkpc : k ≤ pc := by omega
      have hkpcI : (k : Int) ≤ (pc : Int) := by omega
      have hib1 : IsB w2 (.slice (some ⟨pg, 0, none⟩) k pc) (ps.take k) := IsB.take (n := 0) HPI.out k pc (by rw [← HL.out]; exact hkL)
      have hl1 : (ps.take k).length = k := by rw [List.length_take, ← HL.out]; omega
      obtain ⟨v1, W1, hr1, ho1, hg1⟩ := app_any w2 (.slice none 0 0) 0 w2.heap.size [] 29 _ (ps.take k) (World.ownsRow_nil _ _ _ _) hib1 (Nat.le_refl _) (by omega)
      rw [Nat.zero_add, List.nil_append] at ho1
      have hK1 : Kept (fun _ => False) w2 W1 := (Kept.refl _ _).grown hg1 (fun q hq => by cases hq)
      have hiW : IsB W1 iv ins := (HI.out.kept HK2.out (fun _ _ f => f)).kept hK1 (fun _ _ f => f)
      obtain ⟨v2, W2, hr2, ho2, hg2⟩ := app_any W1 v1 _ w2.heap.size (ps.take k) 29 iv ins ho1 hiW hK1.size (by omega)
      rw [← List.length_append] at ho2
      have hlt1 := ho1.lt
      have hK2 : Kept (fun q => w2.heap.size ≤ q) w2 W2 := (hK1.mono (fun _ _ f => f.elim)).trans ((Kept.refl _ _).grown hg2 (fun q hq => .inr (hlt1 q hq).1))
      have HR2 := hid_of hr2
      have HO2 := hid_of ho2
      have HK22 := hid_of hK2
      clear hib1 hg1 hK1 hiW hlt1 hr2 ho2 hg2 hK2 ho1
      go_upto_region 12 with (at_builtin; refine wp_app2 rfl (.tmp 40) (.tmp 43) 29 29 ?_ _ _ rfl rfl v1 W1 hr1 ?_; rfl)
      clear hr1
      have hr2 := HR2.out
      go_upto_region 13 with (at_builtin; refine wp_app2 rfl (.tmp 45) (.tmp 46) 29 29 ?_ _ _ rfl rfl v2 W2 hr2 ?_; rfl)
      clear hr2 HR2
      have hib3 := HPI.out.kept HK22.out (fun q hq h => by
        have e : pg = q := by simpa [Value.ownBlock] using hq
        have h : w2.heap.size ≤ q := h
        omega)
      have hib3' : IsB W2 (.slice (some ⟨pg, 0 + q, none⟩) (ps.length - q) (pc - q)) (ps.drop q) := IsB.drop hib3 q _ (by rw [← HL.out]; exact hkn)
      rw [← HL.out, Nat.zero_add] at hib3'
      have hl3 : (ps.drop q).length = L - q := by rw [List.length_drop, ← HL.out]
      have hkn0 : (0 : Int) ≤ (q : Int) := by omega
      have hknI : (q : Int) ≤ (L : Int) := by omega
      have hknpc : q ≤ pc := by omega
      by_cases hpe : pc = q
      · have hz : IsB W2 (.slice (some ⟨pg, 0, none⟩) 0 0) (ps.drop q) := by
          have e : ps.drop q = [] := List.length_eq_zero_iff.1 (by omega)
          rw [e]
          exact .inl ⟨rfl, _, _, rfl⟩
        have hLe : L = q := by omega
        have hpe' := hpe.symm
        subst hpe'
        have hLe' := hLe.symm
        subst hLe'
        clear hpe hLe
        obtain ⟨v3, W3, hr3, ho3, hg3⟩ := app_any W2 v2 _ w2.heap.size (ps.take k ++ ins) 29 _ (ps.drop q) HO2.out hz HK22.out.size (by rw [List.length_append]; omega)
        rw [← List.length_append] at ho3
        have hlt2 := HO2.out.lt
        have hK3 : Kept (fun q => w2.heap.size ≤ q) w2 W3 := HK22.out.trans ((Kept.refl _ _).grown hg3 (fun q hq => .inr (hlt2 q hq).1))
        have HKW : Hid (Kept (fun _ => False) w W3) := HK2.out.step hK3 (fun q hq h => by have h : w2.heap.size ≤ q := h; have := HK2.out.size; omega)
        obtain ⟨xo, xc, hv3, hx1, hx2, hx3⟩ := reads_own ho3
        have HRW := hid_of (reads_walk xo xc _ W3 hx1 hx2 ⟨fun x hx => by
          rcases List.mem_append.1 hx with hx | hx
          · rcases List.mem_append.1 hx with hx | hx
            · exact HPB.out x (List.mem_of_mem_take hx)
            · exact HIB.out x hx
          · exact HPB.out x (List.mem_of_mem_drop hx), by rw [List.length_append, List.length_append]; omega⟩ hx3)
        rw [← hv3] at HRW
        clear hlt2 hK3 hx1 hx2 hx3 hv3 ho3 hg3 hib3 hib3'
        go_upto_region 14 with (at_builtin; refine wp_app2 rfl (.tmp 48) (.tmp 53) 29 29 ?_ _ _ rfl rfl v3 W3 hr3 ?_; rfl)
        clear hr3
        go_wp2_with fail
        refine HRW.out.mono ?_
        rintro e w9 ⟨rfl, hk9⟩
        have HK9 := hid_of (HKW.out.trans hk9)
        clear hk9 HRW
        go_wp2
        go_ret
        exact ⟨rfl, HK9.out⟩
      · obtain ⟨v3, W3, hr3, ho3, hg3⟩ := app_any W2 v2 _ w2.heap.size (ps.take k ++ ins) 29 _ (ps.drop q) HO2.out hib3' HK22.out.size (by rw [List.length_append]; omega)
        rw [← List.length_append] at ho3
        have hlt2 := HO2.out.lt
        have hK3 : Kept (fun q => w2.heap.size ≤ q) w2 W3 := HK22.out.trans ((Kept.refl _ _).grown hg3 (fun q hq => .inr (hlt2 q hq).1))
        have HKW : Hid (Kept (fun _ => False) w W3) := HK2.out.step hK3 (fun q hq h => by have h : w2.heap.size ≤ q := h; have := HK2.out.size; omega)
        obtain ⟨xo, xc, hv3, hx1, hx2, hx3⟩ := reads_own ho3
        have HRW := hid_of (reads_walk xo xc _ W3 hx1 hx2 ⟨fun x hx => by
          rcases List.mem_append.1 hx with hx | hx
          · rcases List.mem_append.1 hx with hx | hx
            · exact HPB.out x (List.mem_of_mem_take hx)
            · exact HIB.out x hx
          · exact HPB.out x (List.mem_of_mem_drop hx), by rw [List.length_append, List.length_append]; omega⟩ hx3)
        rw [← hv3] at HRW
        clear hlt2 hK3 hx1 hx2 hx3 hv3 ho3 hg3 hib3 hib3'
        go_upto_region 14 with (at_builtin; refine wp_app2 rfl (.tmp 48) (.tmp 53) 29 29 ?_ _ _ rfl rfl v3 W3 hr3 ?_; rfl)
        clear hr3
        go_wp2_with fail
        refine HRW.out.mono ?_
        rintro e w9 ⟨rfl, hk9⟩
        have HK9 := hid_of (HKW.out.trans hk9)
        clear hk9 HRW
        go_wp2
        go_ret
        exact ⟨rfl, HK9.out⟩
    · obtain ⟨nk, hnk⟩ : ∃ nk : Nat, nk = L - k := ⟨_, rfl⟩
      rw [← hnk] at hw2 hgt
      have hgtI : ¬ ((nk : Int) < (d : Int)) := by omega
      have HNK := hid_of hnk
      clear hnk
      obtain ⟨nn, hnn⟩ : ∃ nn, nn = d := ⟨_, rfl⟩
      subst hnn
      go_upto_region 11 with fail
      have hnk := HNK.out
      obtain ⟨q, hq⟩ : ∃ q, q = k + nn := ⟨_, rfl⟩
      have hkn : q ≤ L := by omega
      have hw3 : IntKind.i64.wrap ((k : Int) + (nn : Int)) = (q : Int) := by simp [IntKind.wrap, IntKind.bits, IntKind.signed]; omega
      clear hq
      clear hw2 hgt hgtI
      try clear hnn
      try clear hnk
      have hk0 : (0 : Int) ≤ (k : Int) := by omega
      have hkpc : k ≤ pc := by omega
      have hkpcI : (k : Int) ≤ (pc : Int) := by omega
      have hib1 : IsB w2 (.slice (some ⟨pg, 0, none⟩) k pc) (ps.take k) := IsB.take (n := 0) HPI.out k pc (by rw [← HL.out]; exact hkL)
      have hl1 : (ps.take k).length = k := by rw [List.length_take, ← HL.out]; omega
      obtain ⟨v1, W1, hr1, ho1, hg1⟩ := app_any w2 (.slice none 0 0) 0 w2.heap.size [] 29 _ (ps.take k) (World.ownsRow_nil _ _ _ _) hib1 (Nat.le_refl _) (by omega)
      rw [Nat.zero_add, List.nil_append] at ho1
      have hK1 : Kept (fun _ => False) w2 W1 := (Kept.refl _ _).grown hg1 (fun q hq => by cases hq)
      have hiW : IsB W1 iv ins := (HI.out.kept HK2.out (fun _ _ f => f)).kept hK1 (fun _ _ f => f)
      obtain ⟨v2, W2, hr2, ho2, hg2⟩ := app_any W1 v1 _ w2.heap.size (ps.take k) 29 iv ins ho1 hiW hK1.size (by omega)
      rw [← List.length_append] at ho2
      have hlt1 := ho1.lt
      have hK2 : Kept (fun q => w2.heap.size ≤ q) w2 W2 := (hK1.mono (fun _ _ f => f.elim)).trans ((Kept.refl _ _).grown hg2 (fun q hq => .inr (hlt1 q hq).1))
      have HR2 := hid_of hr2
      have HO2 := hid_of ho2
      have HK22 := hid_of hK2
      clear hib1 hg1 hK1 hiW hlt1 hr2 ho2 hg2 hK2 ho1
      go_upto_region 12 with (at_builtin; refine wp_app2 rfl (.tmp 40) (.tmp 43) 29 29 ?_ _ _ rfl rfl v1 W1 hr1 ?_; rfl)
      clear hr1
      have hr2 := HR2.out
      go_upto_region 13 with (at_builtin; refine wp_app2 rfl (.tmp 45) (.tmp 46) 29 29 ?_ _ _ rfl rfl v2 W2 hr2 ?_; rfl)
      clear hr2 HR2
      have hib3 := HPI.out.kept HK22.out (fun q hq h => by
        have e : pg = q := by simpa [Value.ownBlock] using hq
        have h : w2.heap.size ≤ q := h
        omega)
      have hib3' : IsB W2 (.slice (some ⟨pg, 0 + q, none⟩) (ps.length - q) (pc - q)) (ps.drop q) := IsB.drop hib3 q _ (by rw [← HL.out]; exact hkn)
      rw [← HL.out, Nat.zero_add] at hib3'
      have hl3 : (ps.drop q).length = L - q := by rw [List.length_drop, ← HL.out]
      have hkn0 : (0 : Int) ≤ (q : Int) := by omega
      have hknI : (q : Int) ≤ (L : Int) := by omega
      have hknpc : q ≤ pc := by omega
      by_cases hpe : pc = q
      · have hz : IsB W2 (.slice (some ⟨pg, 0, none⟩) 0 0) (ps.drop q) := by
          have e : ps.drop q = [] := List.length_eq_zero_iff.1 (by omega)
          rw [e]
          exact .inl ⟨rfl, _, _, rfl⟩
        have hLe : L = q := by omega
        have hpe' := hpe.symm
        subst hpe'
        have hLe' := hLe.symm
        subst hLe'
        clear hpe hLe
        obtain ⟨v3, W3, hr3, ho3, hg3⟩ := app_any W2 v2 _ w2.heap.size (ps.take k ++ ins) 29 _ (ps.drop q) HO2.out hz HK22.out.size (by rw [List.length_append]; omega)
        rw [← List.length_append] at ho3
        have hlt2 := HO2.out.lt
        have hK3 : Kept (fun q => w2.heap.size ≤ q) w2 W3 := HK22.out.trans ((Kept.refl _ _).grown hg3 (fun q hq => .inr (hlt2 q hq).1))
        have HKW : Hid (Kept (fun _ => False) w W3) := HK2.out.step hK3 (fun q hq h => by have h : w2.heap.size ≤ q := h; have := HK2.out.size; omega)
        obtain ⟨xo, xc, hv3, hx1, hx2, hx3⟩ := reads_own ho3
        have HRW := hid_of (reads_walk xo xc _ W3 hx1 hx2 ⟨fun x hx => by
          rcases List.mem_append.1 hx with hx | hx
          · rcases List.mem_append.1 hx with hx | hx
            · exact HPB.out x (List.mem_of_mem_take hx)
            · exact HIB.out x hx
          · exact HPB.out x (List.mem_of_mem_drop hx), by rw [List.length_append, List.length_append]; omega⟩ hx3)
        rw [← hv3] at HRW
        clear hlt2 hK3 hx1 hx2 hx3 hv3 ho3 hg3 hib3 hib3'
        go_upto_region 14 with (at_builtin; refine wp_app2 rfl (.tmp 48) (.tmp 53) 29 29 ?_ _ _ rfl rfl v3 W3 hr3 ?_; rfl)
        clear hr3
        go_wp2_with fail
        refine HRW.out.mono ?_
        rintro e w9 ⟨rfl, hk9⟩
        have HK9 := hid_of (HKW.out.trans hk9)
        clear hk9 HRW
        go_wp2
        go_ret
        exact ⟨rfl, HK9.out⟩
      · obtain ⟨v3, W3, hr3, ho3, hg3⟩ := app_any W2 v2 _ w2.heap.size (ps.take k ++ ins) 29 _ (ps.drop q) HO2.out hib3' HK22.out.size (by rw [List.length_append]; omega)
        rw [← List.length_append] at ho3
        have hlt2 := HO2.out.lt
        have hK3 : Kept (fun q => w2.heap.size ≤ q) w2 W3 := HK22.out.trans ((Kept.refl _ _).grown hg3 (fun q hq => .inr (hlt2 q hq).1))
        have HKW : Hid (Kept (fun _ => False) w W3) := HK2.out.step hK3 (fun q hq h => by have h : w2.heap.size ≤ q := h; have := HK2.out.size; omega)
        obtain ⟨xo, xc, hv3, hx1, hx2, hx3⟩ := reads_own ho3
        have HRW := hid_of (reads_walk xo xc _ W3 hx1 hx2 ⟨fun x hx => by
          rcases List.mem_append.1 hx with hx | hx
          · rcases List.mem_append.1 hx with hx | hx
            · exact HPB.out x (List.mem_of_mem_take hx)
            · exact HIB.out x hx
          · exact HPB.out x (List.mem_of_mem_drop hx), by rw [List.length_append, List.length_append]; omega⟩ hx3)
        rw [← hv3] at HRW
        clear hlt2 hK3 hx1 hx2 hx3 hv3 ho3 hg3 hib3 hib3'
        go_upto_region 14 with (at_builtin; refine wp_app2 rfl (.tmp 48) (.tmp 53) 29 29 ?_ _ _ rfl rfl v3 W3 hr3 ?_; rfl)
        clear hr3
        go_wp2_with fail
        refine HRW.out.mono ?_
        rintro e w9 ⟨rfl, hk9⟩
        have HK9 := hid_of (HKW.out.trans hk9)
        clear hk9 HRW
        go_wp2
        go_ret
        exact ⟨rfl, HK9.out⟩
  · obtain ⟨cd, hcd⟩ : ∃ cd, cd = checkD nameP ys := ⟨_, rfl⟩
    rw [← hcd] at hc ⊢
    have hc1 : (cd != 0) = true := by simpa using hc
    have HK2 := hid_of (HK1.out.trans hk2)
    clear hc hcd hk2 HEN HK1
    go_wp2
    go_ret
    exact ⟨rfl, HK2.out⟩
end Go.Proofs.YtcpkbajmilkhpaaDoor

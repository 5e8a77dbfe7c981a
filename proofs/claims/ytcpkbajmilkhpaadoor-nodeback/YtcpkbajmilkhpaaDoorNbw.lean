/-
  NodeBack: the walk.
-/
import Derived.Test.YtcpkbajmilkhpaaDoorNbn
import Derived.Test.YtcpkbajmilkhpaaDoorNsq
import Derived.BigQuiet
import Derived.BigGuardPart
namespace Go.Proofs.YtcpkbajmilkhpaaDoor
open Go.RowKit
set_option linter.unusedVariables false
set_option linter.unusedSimpArgs false
set_option maxRecDepth 100000

theorem enc_call (v : Value) (ys : List EV) (w : World) (hv : RowE w v ys) (hvl : ∀ g, v.ownBlock = some g → g < w.heap.size) (hy : ∀ y ∈ ys, (y.fr.length ≤ 32 ∧ endsZ y.fr = false) ∧ (∀ x ∈ y.nm, 0 ≤ x ∧ x ≤ 255) ∧ (-9223372036854775808 ≤ y.k ∧ y.k < 9223372036854775808)) (hE : checkD nameP ys = 0 → encS ys = .ok (encB ys)) :
    Calls Tryd.prog 14 #[v] w fun e w' => Kept (fun _ => False) w w' ∧
    ((checkD nameP ys = 0 ∧ ∃ v', e = .returned (.tuple #[v', .int .i64 0]) ∧ w'.ownsRow w.heap.size 5 1 v' (encB ys).length ((encB ys).map (Value.int .u8))) ∨
     (checkD nameP ys ≠ 0 ∧ e = .returned (.tuple #[.slice none 0 0, .int .i64 (checkD nameP ys)]))) :=
  (encode_any nameP nameC v ys w hv hvl (fun y h => (hy y h).1) nameP_len (fun y h => (hy y h).2.1) (fun y h => (hy y h).2.2)).mono (fun e w' h => encR_out hE h)
theorem dec_call (g : Nat) (bo : Option Addr) (bc : Nat) (xs : List Int) (w : World) (hx : IsR w g (.slice bo xs.length bc) xs) (hgl : g < w.heap.size) (hb : BytesOk xs) :
    Calls Tryd.prog 17 #[.slice bo xs.length bc] w fun e w' => ∃ lv, e = .returned (.tuple #[lv, .int .i64 (decK xs)]) ∧ RowE w' lv (decL xs) ∧ Kept (fun _ => False) w w' ∧ (∀ g, lv.ownBlock = some g → w.heap.size ≤ g ∧ g < w'.heap.size) :=
  (decode_x nameP nameC g bo bc xs w hx hgl hb).mono (fun e w' h => decR_out hb h)
theorem decL_nil {xs : List Int} (h : decK xs ≠ 0) : decL xs = [] := by
  unfold decK at h
  unfold decL
  split
  · rfl
  · rename_i hl
    rw [if_neg hl] at h
    cases hd : listD nameP xs with
    | error f => rfl
    | ok q =>
      obtain ⟨ys, rest⟩ := q
      rw [hd] at h
      dsimp only at h ⊢
      split
      · rfl
      · rename_i h0
        rw [if_neg h0] at h
        exact absurd rfl h
theorem encB_ne (ys : List EV) : encB ys ≠ [] := by
  intro e
  have := congrArg List.length e
  unfold encB at this
  rw [List.length_append] at this
  have h1 : (Mth.form 1).length = 1 := rfl
  simp [h1] at this

theorem yields_conv {ops : Array Oper} {o : Oper} {a : Act} {w6 : World} (hw : Region.wanted o (yielded ops a.tmps) = true) (x : Operand) (ho : o.op = .convert 29 9 x) (v : Value) (s : ByteArray) (hx : a.eval x = v) (h : ∀ d, (convert 29 9 v).run Tryd.prog (w6.drewN d) = .ok (.string s) (w6.drewN d)) :
    YieldsIf Tryd.prog ops (fun w' => ∃ d, w' = w6.drewN d) o (.string s) a :=
  .inl ⟨hw, fun w hd => by
    obtain ⟨d, rfl⟩ := hd
    unfold execOp
    simp only [ho, hx, Sem.run_bind, h, Result.andThen_ok, Sem.run_pure]⟩

set_option maxHeartbeats 4000000 in
theorem back_walk (lv mv : Value) (ys zs : List EV) (g : Nat) (bo : Option Addr) (bc : Nat) (xs : List Int) (w : World) (hl : RowE w lv ys) (hm : RowE w mv zs) (hlv : ∀ g, lv.ownBlock = some g → g < w.heap.size) (hmv : ∀ g, mv.ownBlock = some g → g < w.heap.size) (hyok : ∀ y ∈ ys, y.Ok) (hzok : ∀ z ∈ zs, z.Ok)
    (hx : IsR w g (.slice bo xs.length bc) xs) (hgl : g < w.heap.size) (hib : IsB w (.slice bo xs.length bc) xs) (hb : BytesOk xs) :
    Calls Tryd.prog 7 #[lv, mv, .slice bo xs.length bc] w fun e w' => e = .returned (.bool true) ∧ Kept (fun _ => False) w w' := by
  obtain ⟨nb, hnb⟩ : ∃ n, n = xs.length := ⟨_, rfl⟩
  have HN := hid_of hnb
  have HX := hid_of hx
  have HIB := hid_of hib
  have HB := hid_of hb
  have HL := hid_of hl
  have HM := hid_of hm
  have HLV := hid_of hlv
  have HMV := hid_of hmv
  have HYO := hid_of hyok
  have HZO := hid_of hzok
  rw [← hnb]
  clear hnb hx hib hb hl hm hlv hmv hyok hzok
  have HKN := hid_of (known_any w)
  go_enter Tryd.func7, Tryd.ntmps7
  go_wp2_with fail
  refine HKN.out.mono ?_
  rintro e w1 ⟨rfl, hk1⟩
  have HEN := hid_of (enc_call lv ys w1 (HL.out.kept hk1 (fun _ _ f => f)) (fun g hg => Nat.lt_of_lt_of_le (HLV.out g hg) hk1.size) (fun y hy => ⟨(HYO.out y hy).fr, (HYO.out y hy).nm, (HYO.out y hy).k⟩) (fun h => (right_enc HYO.out h).1))
  have HK1 := hid_of hk1
  clear hk1 HKN
  go_wp2_with fail
  refine HEN.out.mono ?_
  rintro e w2 ⟨hk2, ⟨hc, pv, rfl, ho⟩ | ⟨hc, rfl⟩⟩
  · have hK2 := HK1.out.trans hk2
    have HCK := hid_of (check_any nameP nameC lv ys w2 (HL.out.kept hK2 (fun _ _ f => f)) (fun y hy => (HYO.out y hy).fr.1) (fun y hy => (HYO.out y hy).nm))
    rw [hc] at HCK
    have HC := hid_of hc
    obtain ⟨pg, pc, rfl, hR, hpl, hpb, hpc⟩ := isR_own ho (encB_ne ys)
    have HPI := hid_of (isB_own ho)
    have HRR := hid_of hR
    have HK2 := hid_of hK2
    clear hc ho hR hk2 hK2 HEN HK1
    go_wp2_with fail
    refine HCK.out.mono ?_
    rintro e w3 ⟨rfl, hk3⟩
    clear HCK
    have hDC := dec_call pg (some ⟨pg, 0, none⟩) pc (encB ys) w3 (HRR.out.kept hk3 (fun f => f)) (Nat.lt_of_lt_of_le hpl hk3.size) (right_enc HYO.out HC.out).2.1
    rw [(right_dec HYO.out HC.out).1, (right_dec HYO.out HC.out).2] at hDC
    obtain ⟨n, hn⟩ : ∃ n, n = (encB ys).length := ⟨_, rfl⟩
    rw [← hn] at hDC
    have HNP := hid_of hn
    have HDC := hid_of hDC
    have HPI3 := hid_of (HPI.out.kept hk3 (fun _ _ f => f))
    have HK3 := hid_of (HK2.out.trans hk3)
    rw [← hn] at hpc ⊢
    clear hDC hn hk3 HPI HRR HK2
    go_wp2_with fail
    refine HDC.out.mono ?_
    rintro e w4 ⟨xv, rfl, hr4, hk4, hlt4⟩
    clear HDC
    have hK4 := HK3.out.trans hk4
    have hny : ys.length ≤ 1024 := (checkD_zero HC.out).1
    have HSM := hid_of (same_any xv lv ys ys w4 hr4 (HL.out.kept hK4 (fun _ _ f => f)) (fun y hy => (HYO.out y hy).fr.1) (fun y hy => (HYO.out y hy).fr.1) (by omega))
    rw [sameL_refl] at HSM
    have HPI4 := hid_of (HPI3.out.kept hk4 (fun _ _ f => f))
    have HK4 := hid_of hK4
    clear hr4 hk4 hlt4 hK4 HPI3 HK3
    go_wp2_with fail
    refine HSM.out.mono ?_
    rintro e w5 ⟨rfl, hk5⟩
    clear HSM
    have hK5 := HK4.out.trans hk5
    have HEM := hid_of (enc_call mv zs w5 (HM.out.kept hK5 (fun _ _ f => f)) (fun g hg => Nat.lt_of_lt_of_le (HMV.out g hg) hK5.size) (fun y hy => ⟨(HZO.out y hy).fr, (HZO.out y hy).nm, (HZO.out y hy).k⟩) (fun h => (right_enc HZO.out h).1))
    have HPI5 := hid_of (HPI4.out.kept hk5 (fun _ _ f => f))
    have HK5 := hid_of hK5
    clear hk5 hK5 HPI4 HK4
    go_wp2_with fail
    refine HEM.out.mono ?_
    rintro e w6 ⟨hk6, ⟨hc', qv, rfl, ho'⟩ | ⟨hc', rfl⟩⟩
    · have hK6 := HK5.out.trans hk6
      obtain ⟨qg, qc, rfl, _, hql, hqb, hqc⟩ := isR_own ho' (encB_ne zs)
      have hqi := isB_own ho'
      have hpi := HPI5.out.kept hk6 (fun _ _ f => f)
      have hkd : ∀ d, Kept (fun _ => False) w6 (w6.drewN d) := fun d => kept_drewN (Kept.refl _ _) d
      have hcp : ∀ d, (convert 29 9 (.slice (some ⟨pg, 0, none⟩) (encB ys).length pc)).run Tryd.prog (w6.drewN d) = .ok (.string (str (encB ys))) (w6.drewN d) := fun d => conv_str _ _ _ (hpi.kept (hkd d) (fun _ _ f => f))
      have hcq : ∀ d, (convert 29 9 (.slice (some ⟨qg, 0, none⟩) (encB zs).length qc)).run Tryd.prog (w6.drewN d) = .ok (.string (str (encB zs))) (w6.drewN d) := fun d => conv_str _ _ _ (hqi.kept (hkd d) (fun _ _ f => f))
      have hss := right_same HYO.out HZO.out HC.out hc'
      have hsq : ∀ d, Calls Tryd.prog 20 #[lv, mv] (w6.drewN d) fun e w' => e = .returned (.bool (sameL ys zs)) ∧ ∃ k, w' = (w6.drewN d).drewN k := fun d => same_q lv mv ys zs _ (HL.out.kept (hK6.trans (hkd d)) (fun _ _ f => f)) (HM.out.kept (hK6.trans (hkd d)) (fun _ _ f => f)) (fun y hy => (HYO.out y hy).fr.1) (fun y hy => (HZO.out y hy).fr.1) (by omega)
      have hqf : (encB ys).length < (encB zs).length → ∀ d, (convert 29 9 (.slice (some ⟨qg, 0, none⟩) (encB ys).length qc)).run Tryd.prog (w6.drewN d) = .ok (.string (str ((encB zs).take (encB ys).length))) (w6.drewN d) := fun hlt d => by
        have hl : ((encB zs).take (encB ys).length).length = (encB ys).length := by rw [List.length_take]; omega
        have := conv_str (w6.drewN d) (.slice (some ⟨qg, 0, none⟩) ((encB zs).take (encB ys).length).length qc) ((encB zs).take (encB ys).length) (.inr ⟨qg, 0, qc, rfl, fun i hi => by
          rcases hqi.kept (hkd d) (fun _ _ f => f) with ⟨e, _⟩ | ⟨g', o', c', e, hcs⟩
          · exact absurd e (encB_ne zs)
          · cases e
            rw [hl] at hi
            rw [hcs i (by omega)]
            simp [List.getD, List.getElem?_take, hi]⟩)
        rwa [hl] at this
      have hfr := fun h => right_front HYO.out HZO.out HC.out hc' h
      obtain ⟨m, hmm⟩ : ∃ m, m = (encB zs).length := ⟨_, rfl⟩
      rw [← HNP.out] at hcp hqf hfr
      rw [← hmm] at hcq hqf hfr hqc ⊢
      have HSQ := hid_of hsq
      have HK6 := hid_of hK6
      have HHS := hid_of hss
      clear hsq hK6 hk6 ho' hqi hpi hkd hmm HEM HPI5 HK5 hqb hql hpb hpl
      generalize sameL ys zs = sb at *
      generalize str (encB ys) = sp at *
      generalize str (encB zs) = sq at *
      have hss := HHS.out
      clear HHS
      by_cases hlt : n < m
      · have hltI : (n : Int) < (m : Int) := by omega
        have hcf := hqf hlt
        have hf := hfr hlt
        have hnq : n ≤ qc := by omega
        have hnqI : (n : Int) ≤ (qc : Int) := by omega
        have hn0 : (0 : Int) ≤ (n : Int) := by omega
        generalize str ((encB zs).take n) = sf at *
        clear hqf hfr hc'
        cases sb
        · go_upto_region 11 with fail
          refine wp_region_held_drew (S := fun w' => ∃ d, w' = w6.drewN d) (by kernel_rfl) ⟨1, rfl⟩ (fun hHeld => ?_)
          refine wpAnyH_take (i := 0) (v := ?_) rfl (by kernel_rfl) (by kernel_rfl) (by kernel_rfl) (fun _ _ _ h => h) (Or.inl ⟨by rfl, ?_⟩) (by assumption) ?_
          rotate_left 1
          · intro w hSw
            go_simp
            try with_reducible rfl
          try simp only [Act.put, List.getElem_toArray, List.getElem_cons_zero, List.getElem_cons_succ, List.setIfInBounds_toArray, List.set_cons_zero, List.set_cons_succ]
          refine wpAnyH_take (i := 1) (v := ?_) rfl (by kernel_rfl) (by kernel_rfl) (by kernel_rfl) (fun _ _ _ h => h) (Or.inl ⟨by rfl, ?_⟩) (by assumption) ?_
          rotate_left 1
          · intro w hSw
            go_simp
            try with_reducible rfl
          try simp only [Act.put, List.getElem_toArray, List.getElem_cons_zero, List.getElem_cons_succ, List.setIfInBounds_toArray, List.set_cons_zero, List.set_cons_succ]
          refine wpAnyH_take (i := 2) (v := ?_) rfl (by kernel_rfl) (by kernel_rfl) (by kernel_rfl) (fun _ _ _ h => h) (Or.inl ⟨by rfl, ?_⟩) (by assumption) ?_
          rotate_left 1
          · intro w hSw
            go_simp
            try with_reducible rfl
          try simp only [Act.put, List.getElem_toArray, List.getElem_cons_zero, List.getElem_cons_succ, List.setIfInBounds_toArray, List.set_cons_zero, List.set_cons_succ]
          refine wpAnyH_take (i := 3) (v := ?_) rfl (by kernel_rfl) (by kernel_rfl) (by kernel_rfl) (fun _ _ _ h => h) (Or.inl ⟨by rfl, ?_⟩) (by assumption) ?_
          rotate_left 1
          · intro w hSw
            go_simp
            try with_reducible rfl
          try simp only [Act.put, List.getElem_toArray, List.getElem_cons_zero, List.getElem_cons_succ, List.setIfInBounds_toArray, List.set_cons_zero, List.set_cons_succ]
          refine wpAnyH_take (i := 4) (v := .string sp) rfl (by kernel_rfl) (by kernel_rfl) (by kernel_rfl) (fun _ _ _ h => h) (yields_conv (by rfl) _ rfl (.slice (some ⟨pg, 0, none⟩) n pc) sp rfl hcp) (by assumption) ?_
          try simp only [Act.put, List.getElem_toArray, List.getElem_cons_zero, List.getElem_cons_succ, List.setIfInBounds_toArray, List.set_cons_zero, List.set_cons_succ]
          refine wpAnyH_take (i := 5) (v := ?_) rfl (by kernel_rfl) (by kernel_rfl) (by kernel_rfl) (fun _ _ _ h => h) (Or.inl ⟨by rfl, ?_⟩) (by assumption) ?_
          rotate_left 1
          · intro w hSw
            go_simp
            try with_reducible rfl
          try simp only [Act.put, List.getElem_toArray, List.getElem_cons_zero, List.getElem_cons_succ, List.setIfInBounds_toArray, List.set_cons_zero, List.set_cons_succ]
          refine wpAnyH_take (i := 6) (v := .string sq) rfl (by kernel_rfl) (by kernel_rfl) (by kernel_rfl) (fun _ _ _ h => h) (yields_conv (by rfl) _ rfl (.slice (some ⟨qg, 0, none⟩) m qc) sq rfl hcq) (by assumption) ?_
          try simp only [Act.put, List.getElem_toArray, List.getElem_cons_zero, List.getElem_cons_succ, List.setIfInBounds_toArray, List.set_cons_zero, List.set_cons_succ]
          refine wpAnyH_take (i := 7) (v := ?_) rfl (by kernel_rfl) (by kernel_rfl) (by kernel_rfl) (fun _ _ _ h => h) (Or.inl ⟨by rfl, ?_⟩) (by assumption) ?_
          rotate_left 1
          · intro w hSw
            go_simp
            try with_reducible rfl
          try simp only [Act.put, List.getElem_toArray, List.getElem_cons_zero, List.getElem_cons_succ, List.setIfInBounds_toArray, List.set_cons_zero, List.set_cons_succ]
          try simp only [hss]
          refine wpAnyH_take (i := 8) (v := ?_) rfl (by kernel_rfl) (by kernel_rfl) (by kernel_rfl) (fun _ _ _ h => h) (Or.inl ⟨by rfl, ?_⟩) (by assumption) ?_
          rotate_left 1
          · intro w hSw
            go_simp
            try with_reducible rfl
          try simp only [Act.put, List.getElem_toArray, List.getElem_cons_zero, List.getElem_cons_succ, List.setIfInBounds_toArray, List.set_cons_zero, List.set_cons_succ]
          refine wpAnyH_take (i := 9) (v := ?_) rfl (by kernel_rfl) (by kernel_rfl) (by kernel_rfl) (fun _ _ _ h => h) (Or.inl ⟨by rfl, ?_⟩) (by assumption) ?_
          rotate_left 1
          · intro w hSw
            go_simp
            try with_reducible rfl
          try simp only [Act.put, List.getElem_toArray, List.getElem_cons_zero, List.getElem_cons_succ, List.setIfInBounds_toArray, List.set_cons_zero, List.set_cons_succ]
          refine wpAnyH_ready (rs := [10]) (by kernel_rfl) (by simp) ?_
          refine AllReadyH.cons rfl (fun K hK => ?_) AllReadyH.nil
          go_simp
          refine (show Calls Tryd.prog 20 #[lv, mv] w6.drew _ from HSQ.out 1).mono ?_
          rintro e w7 ⟨rfl, k7, hw7⟩
          have HW7 : Hid (w7 = w6.drewN (1 + k7)) := by unfold Hid; rw [hw7, World.drewN_drewN]
          clear hw7
          refine hK.out _ _ ⟨1 + k7, HW7.out⟩ (fun hHeld => ?_)
          clear hK K
          try simp only [Act.put, List.getElem_toArray, List.getElem_cons_zero, List.getElem_cons_succ, List.setIfInBounds_toArray, List.set_cons_zero, List.set_cons_succ]
          refine wpAnyH_take (i := 11) (v := ?_) rfl (by kernel_rfl) (by kernel_rfl) (by kernel_rfl) (fun _ _ _ h => h) (Or.inl ⟨by rfl, ?_⟩) (by assumption) ?_
          rotate_left 1
          · intro w hSw
            go_simp
            try with_reducible rfl
          try simp only [Act.put, List.getElem_toArray, List.getElem_cons_zero, List.getElem_cons_succ, List.setIfInBounds_toArray, List.set_cons_zero, List.set_cons_succ]
          refine wpAnyH_take (i := 12) (v := ?_) rfl (by kernel_rfl) (by kernel_rfl) (by kernel_rfl) (fun _ _ _ h => h) (Or.inl ⟨by rfl, ?_⟩) (by assumption) ?_
          rotate_left 1
          · intro w hSw
            go_simp
            try with_reducible rfl
          try simp only [Act.put, List.getElem_toArray, List.getElem_cons_zero, List.getElem_cons_succ, List.setIfInBounds_toArray, List.set_cons_zero, List.set_cons_succ]
          refine wpAnyH_take (i := 13) (v := ?_) rfl (by kernel_rfl) (by kernel_rfl) (by kernel_rfl) (fun _ _ _ h => h) (Or.inl ⟨by rfl, ?_⟩) (by assumption) ?_
          rotate_left 1
          · intro w hSw
            go_simp
            try with_reducible rfl
          try simp only [Act.put, List.getElem_toArray, List.getElem_cons_zero, List.getElem_cons_succ, List.setIfInBounds_toArray, List.set_cons_zero, List.set_cons_succ]
          refine wpAnyH_take (i := 14) (v := ?_) rfl (by kernel_rfl) (by kernel_rfl) (by kernel_rfl) (fun _ _ _ h => h) (Or.inl ⟨by rfl, ?_⟩) (by assumption) ?_
          rotate_left 1
          · intro w hSw
            go_simp
            try with_reducible rfl
          try simp only [Act.put, List.getElem_toArray, List.getElem_cons_zero, List.getElem_cons_succ, List.setIfInBounds_toArray, List.set_cons_zero, List.set_cons_succ]
          refine wpAnyH_take (i := 15) (v := ?_) rfl (by kernel_rfl) (by kernel_rfl) (by kernel_rfl) (fun _ _ _ h => h) (Or.inl ⟨by rfl, ?_⟩) (by assumption) ?_
          rotate_left 1
          · intro w hSw
            go_simp
            try with_reducible rfl
          try simp only [Act.put, List.getElem_toArray, List.getElem_cons_zero, List.getElem_cons_succ, List.setIfInBounds_toArray, List.set_cons_zero, List.set_cons_succ]
          refine wpAnyH_take (i := 16) (v := ?_) rfl (by kernel_rfl) (by kernel_rfl) (by kernel_rfl) (fun _ _ _ h => h) (Or.inl ⟨by rfl, ?_⟩) (by assumption) ?_
          rotate_left 1
          · intro w hSw
            go_simp
            try with_reducible rfl
          try simp only [Act.put, List.getElem_toArray, List.getElem_cons_zero, List.getElem_cons_succ, List.setIfInBounds_toArray, List.set_cons_zero, List.set_cons_succ]
          refine wpAnyH_take (i := 17) (v := ?_) rfl (by kernel_rfl) (by kernel_rfl) (by kernel_rfl) (fun _ _ _ h => h) (Or.inl ⟨by rfl, ?_⟩) (by assumption) ?_
          rotate_left 1
          · intro w hSw
            go_simp
            try with_reducible rfl
          try simp only [Act.put, List.getElem_toArray, List.getElem_cons_zero, List.getElem_cons_succ, List.setIfInBounds_toArray, List.set_cons_zero, List.set_cons_succ]
          refine wpAnyH_take (i := 18) (v := ?_) rfl (by kernel_rfl) (by kernel_rfl) (by kernel_rfl) (fun _ _ _ h => h) (Or.inl ⟨by rfl, ?_⟩) (by assumption) ?_
          rotate_left 1
          · intro w hSw
            go_simp
            try with_reducible rfl
          try simp only [Act.put, List.getElem_toArray, List.getElem_cons_zero, List.getElem_cons_succ, List.setIfInBounds_toArray, List.set_cons_zero, List.set_cons_succ]
          refine wpAnyH_take (i := 19) (v := ?_) rfl (by kernel_rfl) (by kernel_rfl) (by kernel_rfl) (fun _ _ _ h => h) (Or.inl ⟨by rfl, ?_⟩) (by assumption) ?_
          rotate_left 1
          · intro w hSw
            go_simp
            try with_reducible rfl
          try simp only [Act.put, List.getElem_toArray, List.getElem_cons_zero, List.getElem_cons_succ, List.setIfInBounds_toArray, List.set_cons_zero, List.set_cons_succ]
          refine wpAnyH_take (i := 20) (v := ?_) rfl (by kernel_rfl) (by kernel_rfl) (by kernel_rfl) (fun _ _ _ h => h) (Or.inl ⟨by rfl, ?_⟩) (by assumption) ?_
          rotate_left 1
          · intro w hSw
            go_simp
            try with_reducible rfl
          try simp only [Act.put, List.getElem_toArray, List.getElem_cons_zero, List.getElem_cons_succ, List.setIfInBounds_toArray, List.set_cons_zero, List.set_cons_succ]
          refine wpAnyH_take (i := 21) (v := ?_) rfl (by kernel_rfl) (by kernel_rfl) (by kernel_rfl) (fun _ _ _ h => h) (Or.inl ⟨by rfl, ?_⟩) (by assumption) ?_
          rotate_left 1
          · intro w hSw
            go_simp
            try with_reducible rfl
          try simp only [Act.put, List.getElem_toArray, List.getElem_cons_zero, List.getElem_cons_succ, List.setIfInBounds_toArray, List.set_cons_zero, List.set_cons_succ]
          refine wpAnyH_take (i := 22) (v := ?_) rfl (by kernel_rfl) (by kernel_rfl) (by kernel_rfl) (fun _ _ _ h => h) (Or.inl ⟨by rfl, ?_⟩) (by assumption) ?_
          rotate_left 1
          · intro w hSw
            go_simp
            try with_reducible rfl
          try simp only [Act.put, List.getElem_toArray, List.getElem_cons_zero, List.getElem_cons_succ, List.setIfInBounds_toArray, List.set_cons_zero, List.set_cons_succ]
          refine wpAnyH_take (i := 23) (v := ?_) rfl (by kernel_rfl) (by kernel_rfl) (by kernel_rfl) (fun _ _ _ h => h) (Or.inl ⟨by rfl, ?_⟩) (by assumption) ?_
          rotate_left 1
          · intro w hSw
            go_simp
            try with_reducible rfl
          try simp only [Act.put, List.getElem_toArray, List.getElem_cons_zero, List.getElem_cons_succ, List.setIfInBounds_toArray, List.set_cons_zero, List.set_cons_succ]
          refine wpAnyH_take (i := 24) (v := ?_) rfl (by kernel_rfl) (by kernel_rfl) (by kernel_rfl) (fun _ _ _ h => h) (Or.inl ⟨by rfl, ?_⟩) (by assumption) ?_
          rotate_left 1
          · intro w hSw
            go_simp
            try with_reducible rfl
          try simp only [Act.put, List.getElem_toArray, List.getElem_cons_zero, List.getElem_cons_succ, List.setIfInBounds_toArray, List.set_cons_zero, List.set_cons_succ]
          refine wpAnyH_take (i := 25) (v := ?_) rfl (by kernel_rfl) (by kernel_rfl) (by kernel_rfl) (fun _ _ _ h => h) (Or.inl ⟨by rfl, ?_⟩) (by assumption) ?_
          rotate_left 1
          · intro w hSw
            go_simp
            try with_reducible rfl
          try simp only [Act.put, List.getElem_toArray, List.getElem_cons_zero, List.getElem_cons_succ, List.setIfInBounds_toArray, List.set_cons_zero, List.set_cons_succ]
          refine wpAnyH_take (i := 26) (v := ?_) rfl (by kernel_rfl) (by kernel_rfl) (by kernel_rfl) (fun _ _ _ h => h) (Or.inl ⟨by rfl, ?_⟩) (by assumption) ?_
          rotate_left 1
          · intro w hSw
            go_simp
            try with_reducible rfl
          try simp only [Act.put, List.getElem_toArray, List.getElem_cons_zero, List.getElem_cons_succ, List.setIfInBounds_toArray, List.set_cons_zero, List.set_cons_succ]
          refine wpAnyH_take (i := 27) (v := ?_) rfl (by kernel_rfl) (by kernel_rfl) (by kernel_rfl) (fun _ _ _ h => h) (Or.inl ⟨by rfl, ?_⟩) (by assumption) ?_
          rotate_left 1
          · intro w hSw
            go_simp
            try with_reducible rfl
          try simp only [Act.put, List.getElem_toArray, List.getElem_cons_zero, List.getElem_cons_succ, List.setIfInBounds_toArray, List.set_cons_zero, List.set_cons_succ]
          refine wpAnyH_take (i := 28) (v := .string sf) rfl (by kernel_rfl) (by kernel_rfl) (by kernel_rfl) (fun _ _ _ h => h) (yields_conv (by rfl) _ rfl (.slice (some ⟨qg, 0, none⟩) n qc) sf rfl hcf) (by assumption) ?_
          try simp only [Act.put, List.getElem_toArray, List.getElem_cons_zero, List.getElem_cons_succ, List.setIfInBounds_toArray, List.set_cons_zero, List.set_cons_succ]
          refine wpAnyH_take (i := 29) (v := ?_) rfl (by kernel_rfl) (by kernel_rfl) (by kernel_rfl) (fun _ _ _ h => h) (Or.inl ⟨by rfl, ?_⟩) (by assumption) ?_
          rotate_left 1
          · intro w hSw
            go_simp
            try with_reducible rfl
          try simp only [Act.put, List.getElem_toArray, List.getElem_cons_zero, List.getElem_cons_succ, List.setIfInBounds_toArray, List.set_cons_zero, List.set_cons_succ]
          refine wpAnyH_take (i := 30) (v := .string sp) rfl (by kernel_rfl) (by kernel_rfl) (by kernel_rfl) (fun _ _ _ h => h) (yields_conv (by rfl) _ rfl (.slice (some ⟨pg, 0, none⟩) n pc) sp rfl hcp) (by assumption) ?_
          try simp only [Act.put, List.getElem_toArray, List.getElem_cons_zero, List.getElem_cons_succ, List.setIfInBounds_toArray, List.set_cons_zero, List.set_cons_succ]
          refine wpAnyH_take (i := 31) (v := ?_) rfl (by kernel_rfl) (by kernel_rfl) (by kernel_rfl) (fun _ _ _ h => h) (Or.inl ⟨by rfl, ?_⟩) (by assumption) ?_
          rotate_left 1
          · intro w hSw
            go_simp
            try with_reducible rfl
          try simp only [Act.put, List.getElem_toArray, List.getElem_cons_zero, List.getElem_cons_succ, List.setIfInBounds_toArray, List.set_cons_zero, List.set_cons_succ]
          try simp only [hf]
          refine wpAnyH_take (i := 32) (v := ?_) rfl (by kernel_rfl) (by kernel_rfl) (by kernel_rfl) (fun _ _ _ h => h) (Or.inl ⟨by rfl, ?_⟩) (by assumption) ?_
          rotate_left 1
          · intro w hSw
            go_simp
            try with_reducible rfl
          try simp only [Act.put, List.getElem_toArray, List.getElem_cons_zero, List.getElem_cons_succ, List.setIfInBounds_toArray, List.set_cons_zero, List.set_cons_succ]
          refine wpAnyH_take (i := 33) (v := ?_) rfl (by kernel_rfl) (by kernel_rfl) (by kernel_rfl) (fun _ _ _ h => h) (Or.inl ⟨by rfl, ?_⟩) (by assumption) ?_
          rotate_left 1
          · intro w hSw
            go_simp
            try with_reducible rfl
          try simp only [Act.put, List.getElem_toArray, List.getElem_cons_zero, List.getElem_cons_succ, List.setIfInBounds_toArray, List.set_cons_zero, List.set_cons_succ]
          refine wpAnyH_done (by kernel_rfl) ?_ _
          have HK7 : Hid (Kept (fun _ => False) w w7) := by unfold Hid; rw [HW7.out]; exact kept_drewN HK6.out _
          clear HW7 HSQ hcp hcq hss HK6
          try clear hcf hf
          have HDB := hid_of (dec_call g bo bc xs w7 (HX.out.kept HK7.out (fun f => f)) (Nat.lt_of_lt_of_le hgl HK7.out.size) HB.out)
          rw [← HN.out] at HDB
          go_wp2_with fail
          refine HDB.out.mono ?_
          rintro e wA ⟨xv, rfl, hrA, hkA, hltA⟩
          clear HDB
          have hKA := HK7.out.trans hkA
          have HIA := hid_of (HIB.out.kept hKA (fun _ _ f => f))
          have HKA := hid_of hKA
          by_cases hz : decK xs = 0
          · obtain ⟨b1, b2, b3, b4⟩ := back_enc HB.out hz
            have HEX := hid_of (enc_call xv (decL xs) wA hrA (fun g hg => (hltA g hg).2) (fun y hy => ⟨(b4 y hy).1, (b4 y hy).2.1, by rcases (b4 y hy).2.2 with e | e <;> omega⟩) (fun _ => by rw [b3, b2]))
            rw [hz]
            clear hrA hkA hltA hKA b3 b4 hz
            go_wp2_with fail
            refine HEX.out.mono ?_
            rintro e wB ⟨hkB, ⟨_, v', rfl, hoB⟩ | ⟨hne, _⟩⟩
            · rw [b2] at hoB
              have hc1 := conv_str wB v' xs (isB_own hoB)
              have hc2 := conv_str wB _ xs (HIA.out.kept hkB (fun _ _ f => f))
              rw [← HN.out] at hc2
              generalize str xs = sx at *
              have hss : (sx.toList == sx.toList) = true := by simp
              have HKB := hid_of (HKA.out.trans hkB)
              clear hoB hkB HEX b1 b2
              go_wp2
              go_ret
              exact ⟨rfl, HKB.out⟩
            · exact absurd b1 hne
          · rw [decL_nil hz] at hrA
            obtain ⟨xo, xc, hxv⟩ := hrA.shape
            have hxv' : xv = .slice xo 0 xc := hxv
            subst hxv'
            obtain ⟨dk, hdk⟩ : ∃ dk, dk = decK xs := ⟨_, rfl⟩
            rw [← hdk] at hz ⊢
            have hz1 : (dk != 0) = true := by simpa using hz
            have hz2 : (dk == 0) = false := by simpa using hz
            clear hz hdk hrA hkA hltA hKA hxv
            go_wp2
            go_ret
            exact ⟨rfl, HKA.out⟩
        · go_upto_region 11 with fail
          refine wp_region_held_drew (S := fun w' => ∃ d, w' = w6.drewN d) (by kernel_rfl) ⟨1, rfl⟩ (fun hHeld => ?_)
          refine wpAnyH_take (i := 0) (v := ?_) rfl (by kernel_rfl) (by kernel_rfl) (by kernel_rfl) (fun _ _ _ h => h) (Or.inl ⟨by rfl, ?_⟩) (by assumption) ?_
          rotate_left 1
          · intro w hSw
            go_simp
            try with_reducible rfl
          try simp only [Act.put, List.getElem_toArray, List.getElem_cons_zero, List.getElem_cons_succ, List.setIfInBounds_toArray, List.set_cons_zero, List.set_cons_succ]
          refine wpAnyH_take (i := 1) (v := ?_) rfl (by kernel_rfl) (by kernel_rfl) (by kernel_rfl) (fun _ _ _ h => h) (Or.inl ⟨by rfl, ?_⟩) (by assumption) ?_
          rotate_left 1
          · intro w hSw
            go_simp
            try with_reducible rfl
          try simp only [Act.put, List.getElem_toArray, List.getElem_cons_zero, List.getElem_cons_succ, List.setIfInBounds_toArray, List.set_cons_zero, List.set_cons_succ]
          refine wpAnyH_take (i := 2) (v := ?_) rfl (by kernel_rfl) (by kernel_rfl) (by kernel_rfl) (fun _ _ _ h => h) (Or.inl ⟨by rfl, ?_⟩) (by assumption) ?_
          rotate_left 1
          · intro w hSw
            go_simp
            try with_reducible rfl
          try simp only [Act.put, List.getElem_toArray, List.getElem_cons_zero, List.getElem_cons_succ, List.setIfInBounds_toArray, List.set_cons_zero, List.set_cons_succ]
          refine wpAnyH_take (i := 3) (v := ?_) rfl (by kernel_rfl) (by kernel_rfl) (by kernel_rfl) (fun _ _ _ h => h) (Or.inl ⟨by rfl, ?_⟩) (by assumption) ?_
          rotate_left 1
          · intro w hSw
            go_simp
            try with_reducible rfl
          try simp only [Act.put, List.getElem_toArray, List.getElem_cons_zero, List.getElem_cons_succ, List.setIfInBounds_toArray, List.set_cons_zero, List.set_cons_succ]
          refine wpAnyH_take (i := 4) (v := .string sp) rfl (by kernel_rfl) (by kernel_rfl) (by kernel_rfl) (fun _ _ _ h => h) (yields_conv (by rfl) _ rfl (.slice (some ⟨pg, 0, none⟩) n pc) sp rfl hcp) (by assumption) ?_
          try simp only [Act.put, List.getElem_toArray, List.getElem_cons_zero, List.getElem_cons_succ, List.setIfInBounds_toArray, List.set_cons_zero, List.set_cons_succ]
          refine wpAnyH_take (i := 5) (v := ?_) rfl (by kernel_rfl) (by kernel_rfl) (by kernel_rfl) (fun _ _ _ h => h) (Or.inl ⟨by rfl, ?_⟩) (by assumption) ?_
          rotate_left 1
          · intro w hSw
            go_simp
            try with_reducible rfl
          try simp only [Act.put, List.getElem_toArray, List.getElem_cons_zero, List.getElem_cons_succ, List.setIfInBounds_toArray, List.set_cons_zero, List.set_cons_succ]
          refine wpAnyH_take (i := 6) (v := .string sq) rfl (by kernel_rfl) (by kernel_rfl) (by kernel_rfl) (fun _ _ _ h => h) (yields_conv (by rfl) _ rfl (.slice (some ⟨qg, 0, none⟩) m qc) sq rfl hcq) (by assumption) ?_
          try simp only [Act.put, List.getElem_toArray, List.getElem_cons_zero, List.getElem_cons_succ, List.setIfInBounds_toArray, List.set_cons_zero, List.set_cons_succ]
          refine wpAnyH_take (i := 7) (v := ?_) rfl (by kernel_rfl) (by kernel_rfl) (by kernel_rfl) (fun _ _ _ h => h) (Or.inl ⟨by rfl, ?_⟩) (by assumption) ?_
          rotate_left 1
          · intro w hSw
            go_simp
            try with_reducible rfl
          try simp only [Act.put, List.getElem_toArray, List.getElem_cons_zero, List.getElem_cons_succ, List.setIfInBounds_toArray, List.set_cons_zero, List.set_cons_succ]
          try simp only [hss]
          refine wpAnyH_take (i := 8) (v := ?_) rfl (by kernel_rfl) (by kernel_rfl) (by kernel_rfl) (fun _ _ _ h => h) (Or.inl ⟨by rfl, ?_⟩) (by assumption) ?_
          rotate_left 1
          · intro w hSw
            go_simp
            try with_reducible rfl
          try simp only [Act.put, List.getElem_toArray, List.getElem_cons_zero, List.getElem_cons_succ, List.setIfInBounds_toArray, List.set_cons_zero, List.set_cons_succ]
          refine wpAnyH_take (i := 9) (v := ?_) rfl (by kernel_rfl) (by kernel_rfl) (by kernel_rfl) (fun _ _ _ h => h) (Or.inl ⟨by rfl, ?_⟩) (by assumption) ?_
          rotate_left 1
          · intro w hSw
            go_simp
            try with_reducible rfl
          try simp only [Act.put, List.getElem_toArray, List.getElem_cons_zero, List.getElem_cons_succ, List.setIfInBounds_toArray, List.set_cons_zero, List.set_cons_succ]
          refine wpAnyH_ready (rs := [10]) (by kernel_rfl) (by simp) ?_
          refine AllReadyH.cons rfl (fun K hK => ?_) AllReadyH.nil
          go_simp
          refine (show Calls Tryd.prog 20 #[lv, mv] w6.drew _ from HSQ.out 1).mono ?_
          rintro e w7 ⟨rfl, k7, hw7⟩
          have HW7 : Hid (w7 = w6.drewN (1 + k7)) := by unfold Hid; rw [hw7, World.drewN_drewN]
          clear hw7
          refine hK.out _ _ ⟨1 + k7, HW7.out⟩ (fun hHeld => ?_)
          clear hK K
          try simp only [Act.put, List.getElem_toArray, List.getElem_cons_zero, List.getElem_cons_succ, List.setIfInBounds_toArray, List.set_cons_zero, List.set_cons_succ]
          refine wpAnyH_take (i := 11) (v := ?_) rfl (by kernel_rfl) (by kernel_rfl) (by kernel_rfl) (fun _ _ _ h => h) (Or.inl ⟨by rfl, ?_⟩) (by assumption) ?_
          rotate_left 1
          · intro w hSw
            go_simp
            try with_reducible rfl
          try simp only [Act.put, List.getElem_toArray, List.getElem_cons_zero, List.getElem_cons_succ, List.setIfInBounds_toArray, List.set_cons_zero, List.set_cons_succ]
          refine wpAnyH_take (i := 12) (v := ?_) rfl (by kernel_rfl) (by kernel_rfl) (by kernel_rfl) (fun _ _ _ h => h) (Or.inl ⟨by rfl, ?_⟩) (by assumption) ?_
          rotate_left 1
          · intro w hSw
            go_simp
            try with_reducible rfl
          try simp only [Act.put, List.getElem_toArray, List.getElem_cons_zero, List.getElem_cons_succ, List.setIfInBounds_toArray, List.set_cons_zero, List.set_cons_succ]
          refine wpAnyH_take (i := 13) (v := ?_) rfl (by kernel_rfl) (by kernel_rfl) (by kernel_rfl) (fun _ _ _ h => h) (Or.inl ⟨by rfl, ?_⟩) (by assumption) ?_
          rotate_left 1
          · intro w hSw
            go_simp
            try with_reducible rfl
          try simp only [Act.put, List.getElem_toArray, List.getElem_cons_zero, List.getElem_cons_succ, List.setIfInBounds_toArray, List.set_cons_zero, List.set_cons_succ]
          refine wpAnyH_take (i := 14) (v := ?_) rfl (by kernel_rfl) (by kernel_rfl) (by kernel_rfl) (fun _ _ _ h => h) (Or.inl ⟨by rfl, ?_⟩) (by assumption) ?_
          rotate_left 1
          · intro w hSw
            go_simp
            try with_reducible rfl
          try simp only [Act.put, List.getElem_toArray, List.getElem_cons_zero, List.getElem_cons_succ, List.setIfInBounds_toArray, List.set_cons_zero, List.set_cons_succ]
          refine wpAnyH_take (i := 15) (v := ?_) rfl (by kernel_rfl) (by kernel_rfl) (by kernel_rfl) (fun _ _ _ h => h) (Or.inl ⟨by rfl, ?_⟩) (by assumption) ?_
          rotate_left 1
          · intro w hSw
            go_simp
            try with_reducible rfl
          try simp only [Act.put, List.getElem_toArray, List.getElem_cons_zero, List.getElem_cons_succ, List.setIfInBounds_toArray, List.set_cons_zero, List.set_cons_succ]
          refine wpAnyH_take (i := 16) (v := ?_) rfl (by kernel_rfl) (by kernel_rfl) (by kernel_rfl) (fun _ _ _ h => h) (Or.inl ⟨by rfl, ?_⟩) (by assumption) ?_
          rotate_left 1
          · intro w hSw
            go_simp
            try with_reducible rfl
          try simp only [Act.put, List.getElem_toArray, List.getElem_cons_zero, List.getElem_cons_succ, List.setIfInBounds_toArray, List.set_cons_zero, List.set_cons_succ]
          refine wpAnyH_take (i := 17) (v := ?_) rfl (by kernel_rfl) (by kernel_rfl) (by kernel_rfl) (fun _ _ _ h => h) (Or.inl ⟨by rfl, ?_⟩) (by assumption) ?_
          rotate_left 1
          · intro w hSw
            go_simp
            try with_reducible rfl
          try simp only [Act.put, List.getElem_toArray, List.getElem_cons_zero, List.getElem_cons_succ, List.setIfInBounds_toArray, List.set_cons_zero, List.set_cons_succ]
          refine wpAnyH_take (i := 18) (v := ?_) rfl (by kernel_rfl) (by kernel_rfl) (by kernel_rfl) (fun _ _ _ h => h) (Or.inl ⟨by rfl, ?_⟩) (by assumption) ?_
          rotate_left 1
          · intro w hSw
            go_simp
            try with_reducible rfl
          try simp only [Act.put, List.getElem_toArray, List.getElem_cons_zero, List.getElem_cons_succ, List.setIfInBounds_toArray, List.set_cons_zero, List.set_cons_succ]
          refine wpAnyH_take (i := 19) (v := ?_) rfl (by kernel_rfl) (by kernel_rfl) (by kernel_rfl) (fun _ _ _ h => h) (Or.inl ⟨by rfl, ?_⟩) (by assumption) ?_
          rotate_left 1
          · intro w hSw
            go_simp
            try with_reducible rfl
          try simp only [Act.put, List.getElem_toArray, List.getElem_cons_zero, List.getElem_cons_succ, List.setIfInBounds_toArray, List.set_cons_zero, List.set_cons_succ]
          refine wpAnyH_take (i := 20) (v := ?_) rfl (by kernel_rfl) (by kernel_rfl) (by kernel_rfl) (fun _ _ _ h => h) (Or.inl ⟨by rfl, ?_⟩) (by assumption) ?_
          rotate_left 1
          · intro w hSw
            go_simp
            try with_reducible rfl
          try simp only [Act.put, List.getElem_toArray, List.getElem_cons_zero, List.getElem_cons_succ, List.setIfInBounds_toArray, List.set_cons_zero, List.set_cons_succ]
          refine wpAnyH_take (i := 21) (v := ?_) rfl (by kernel_rfl) (by kernel_rfl) (by kernel_rfl) (fun _ _ _ h => h) (Or.inl ⟨by rfl, ?_⟩) (by assumption) ?_
          rotate_left 1
          · intro w hSw
            go_simp
            try with_reducible rfl
          try simp only [Act.put, List.getElem_toArray, List.getElem_cons_zero, List.getElem_cons_succ, List.setIfInBounds_toArray, List.set_cons_zero, List.set_cons_succ]
          refine wpAnyH_take (i := 22) (v := ?_) rfl (by kernel_rfl) (by kernel_rfl) (by kernel_rfl) (fun _ _ _ h => h) (Or.inl ⟨by rfl, ?_⟩) (by assumption) ?_
          rotate_left 1
          · intro w hSw
            go_simp
            try with_reducible rfl
          try simp only [Act.put, List.getElem_toArray, List.getElem_cons_zero, List.getElem_cons_succ, List.setIfInBounds_toArray, List.set_cons_zero, List.set_cons_succ]
          refine wpAnyH_take (i := 23) (v := ?_) rfl (by kernel_rfl) (by kernel_rfl) (by kernel_rfl) (fun _ _ _ h => h) (Or.inl ⟨by rfl, ?_⟩) (by assumption) ?_
          rotate_left 1
          · intro w hSw
            go_simp
            try with_reducible rfl
          try simp only [Act.put, List.getElem_toArray, List.getElem_cons_zero, List.getElem_cons_succ, List.setIfInBounds_toArray, List.set_cons_zero, List.set_cons_succ]
          refine wpAnyH_take (i := 24) (v := ?_) rfl (by kernel_rfl) (by kernel_rfl) (by kernel_rfl) (fun _ _ _ h => h) (Or.inl ⟨by rfl, ?_⟩) (by assumption) ?_
          rotate_left 1
          · intro w hSw
            go_simp
            try with_reducible rfl
          try simp only [Act.put, List.getElem_toArray, List.getElem_cons_zero, List.getElem_cons_succ, List.setIfInBounds_toArray, List.set_cons_zero, List.set_cons_succ]
          refine wpAnyH_take (i := 25) (v := ?_) rfl (by kernel_rfl) (by kernel_rfl) (by kernel_rfl) (fun _ _ _ h => h) (Or.inl ⟨by rfl, ?_⟩) (by assumption) ?_
          rotate_left 1
          · intro w hSw
            go_simp
            try with_reducible rfl
          try simp only [Act.put, List.getElem_toArray, List.getElem_cons_zero, List.getElem_cons_succ, List.setIfInBounds_toArray, List.set_cons_zero, List.set_cons_succ]
          refine wpAnyH_take (i := 26) (v := ?_) rfl (by kernel_rfl) (by kernel_rfl) (by kernel_rfl) (fun _ _ _ h => h) (Or.inl ⟨by rfl, ?_⟩) (by assumption) ?_
          rotate_left 1
          · intro w hSw
            go_simp
            try with_reducible rfl
          try simp only [Act.put, List.getElem_toArray, List.getElem_cons_zero, List.getElem_cons_succ, List.setIfInBounds_toArray, List.set_cons_zero, List.set_cons_succ]
          refine wpAnyH_take (i := 27) (v := ?_) rfl (by kernel_rfl) (by kernel_rfl) (by kernel_rfl) (fun _ _ _ h => h) (Or.inl ⟨by rfl, ?_⟩) (by assumption) ?_
          rotate_left 1
          · intro w hSw
            go_simp
            try with_reducible rfl
          try simp only [Act.put, List.getElem_toArray, List.getElem_cons_zero, List.getElem_cons_succ, List.setIfInBounds_toArray, List.set_cons_zero, List.set_cons_succ]
          refine wpAnyH_take (i := 28) (v := .string sf) rfl (by kernel_rfl) (by kernel_rfl) (by kernel_rfl) (fun _ _ _ h => h) (yields_conv (by rfl) _ rfl (.slice (some ⟨qg, 0, none⟩) n qc) sf rfl hcf) (by assumption) ?_
          try simp only [Act.put, List.getElem_toArray, List.getElem_cons_zero, List.getElem_cons_succ, List.setIfInBounds_toArray, List.set_cons_zero, List.set_cons_succ]
          refine wpAnyH_take (i := 29) (v := ?_) rfl (by kernel_rfl) (by kernel_rfl) (by kernel_rfl) (fun _ _ _ h => h) (Or.inl ⟨by rfl, ?_⟩) (by assumption) ?_
          rotate_left 1
          · intro w hSw
            go_simp
            try with_reducible rfl
          try simp only [Act.put, List.getElem_toArray, List.getElem_cons_zero, List.getElem_cons_succ, List.setIfInBounds_toArray, List.set_cons_zero, List.set_cons_succ]
          refine wpAnyH_take (i := 30) (v := .string sp) rfl (by kernel_rfl) (by kernel_rfl) (by kernel_rfl) (fun _ _ _ h => h) (yields_conv (by rfl) _ rfl (.slice (some ⟨pg, 0, none⟩) n pc) sp rfl hcp) (by assumption) ?_
          try simp only [Act.put, List.getElem_toArray, List.getElem_cons_zero, List.getElem_cons_succ, List.setIfInBounds_toArray, List.set_cons_zero, List.set_cons_succ]
          refine wpAnyH_take (i := 31) (v := ?_) rfl (by kernel_rfl) (by kernel_rfl) (by kernel_rfl) (fun _ _ _ h => h) (Or.inl ⟨by rfl, ?_⟩) (by assumption) ?_
          rotate_left 1
          · intro w hSw
            go_simp
            try with_reducible rfl
          try simp only [Act.put, List.getElem_toArray, List.getElem_cons_zero, List.getElem_cons_succ, List.setIfInBounds_toArray, List.set_cons_zero, List.set_cons_succ]
          try simp only [hf]
          refine wpAnyH_take (i := 32) (v := ?_) rfl (by kernel_rfl) (by kernel_rfl) (by kernel_rfl) (fun _ _ _ h => h) (Or.inl ⟨by rfl, ?_⟩) (by assumption) ?_
          rotate_left 1
          · intro w hSw
            go_simp
            try with_reducible rfl
          try simp only [Act.put, List.getElem_toArray, List.getElem_cons_zero, List.getElem_cons_succ, List.setIfInBounds_toArray, List.set_cons_zero, List.set_cons_succ]
          refine wpAnyH_take (i := 33) (v := ?_) rfl (by kernel_rfl) (by kernel_rfl) (by kernel_rfl) (fun _ _ _ h => h) (Or.inl ⟨by rfl, ?_⟩) (by assumption) ?_
          rotate_left 1
          · intro w hSw
            go_simp
            try with_reducible rfl
          try simp only [Act.put, List.getElem_toArray, List.getElem_cons_zero, List.getElem_cons_succ, List.setIfInBounds_toArray, List.set_cons_zero, List.set_cons_succ]
          refine wpAnyH_done (by kernel_rfl) ?_ _
          have HK7 : Hid (Kept (fun _ => False) w w7) := by unfold Hid; rw [HW7.out]; exact kept_drewN HK6.out _
          clear HW7 HSQ hcp hcq hss HK6
          try clear hcf hf
          have HDB := hid_of (dec_call g bo bc xs w7 (HX.out.kept HK7.out (fun f => f)) (Nat.lt_of_lt_of_le hgl HK7.out.size) HB.out)
          rw [← HN.out] at HDB
          go_wp2_with fail
          refine HDB.out.mono ?_
          rintro e wA ⟨xv, rfl, hrA, hkA, hltA⟩
          clear HDB
          have hKA := HK7.out.trans hkA
          have HIA := hid_of (HIB.out.kept hKA (fun _ _ f => f))
          have HKA := hid_of hKA
          by_cases hz : decK xs = 0
          · obtain ⟨b1, b2, b3, b4⟩ := back_enc HB.out hz
            have HEX := hid_of (enc_call xv (decL xs) wA hrA (fun g hg => (hltA g hg).2) (fun y hy => ⟨(b4 y hy).1, (b4 y hy).2.1, by rcases (b4 y hy).2.2 with e | e <;> omega⟩) (fun _ => by rw [b3, b2]))
            rw [hz]
            clear hrA hkA hltA hKA b3 b4 hz
            go_wp2_with fail
            refine HEX.out.mono ?_
            rintro e wB ⟨hkB, ⟨_, v', rfl, hoB⟩ | ⟨hne, _⟩⟩
            · rw [b2] at hoB
              have hc1 := conv_str wB v' xs (isB_own hoB)
              have hc2 := conv_str wB _ xs (HIA.out.kept hkB (fun _ _ f => f))
              rw [← HN.out] at hc2
              generalize str xs = sx at *
              have hss : (sx.toList == sx.toList) = true := by simp
              have HKB := hid_of (HKA.out.trans hkB)
              clear hoB hkB HEX b1 b2
              go_wp2
              go_ret
              exact ⟨rfl, HKB.out⟩
            · exact absurd b1 hne
          · rw [decL_nil hz] at hrA
            obtain ⟨xo, xc, hxv⟩ := hrA.shape
            have hxv' : xv = .slice xo 0 xc := hxv
            subst hxv'
            obtain ⟨dk, hdk⟩ : ∃ dk, dk = decK xs := ⟨_, rfl⟩
            rw [← hdk] at hz ⊢
            have hz1 : (dk != 0) = true := by simpa using hz
            have hz2 : (dk == 0) = false := by simpa using hz
            clear hz hdk hrA hkA hltA hKA hxv
            go_wp2
            go_ret
            exact ⟨rfl, HKA.out⟩
      · have hltI : ¬ ((n : Int) < (m : Int)) := by omega
        clear hqf hfr hc'
        cases sb
        · go_upto_region 11 with fail
          refine wp_region_held_drew (S := fun w' => ∃ d, w' = w6.drewN d) (by kernel_rfl) ⟨1, rfl⟩ (fun hHeld => ?_)
          refine wpAnyH_take (i := 0) (v := ?_) rfl (by kernel_rfl) (by kernel_rfl) (by kernel_rfl) (fun _ _ _ h => h) (Or.inl ⟨by rfl, ?_⟩) (by assumption) ?_
          rotate_left 1
          · intro w hSw
            go_simp
            try with_reducible rfl
          try simp only [Act.put, List.getElem_toArray, List.getElem_cons_zero, List.getElem_cons_succ, List.setIfInBounds_toArray, List.set_cons_zero, List.set_cons_succ]
          refine wpAnyH_take (i := 1) (v := ?_) rfl (by kernel_rfl) (by kernel_rfl) (by kernel_rfl) (fun _ _ _ h => h) (Or.inl ⟨by rfl, ?_⟩) (by assumption) ?_
          rotate_left 1
          · intro w hSw
            go_simp
            try with_reducible rfl
          try simp only [Act.put, List.getElem_toArray, List.getElem_cons_zero, List.getElem_cons_succ, List.setIfInBounds_toArray, List.set_cons_zero, List.set_cons_succ]
          refine wpAnyH_take (i := 2) (v := ?_) rfl (by kernel_rfl) (by kernel_rfl) (by kernel_rfl) (fun _ _ _ h => h) (Or.inl ⟨by rfl, ?_⟩) (by assumption) ?_
          rotate_left 1
          · intro w hSw
            go_simp
            try with_reducible rfl
          try simp only [Act.put, List.getElem_toArray, List.getElem_cons_zero, List.getElem_cons_succ, List.setIfInBounds_toArray, List.set_cons_zero, List.set_cons_succ]
          refine wpAnyH_take (i := 3) (v := ?_) rfl (by kernel_rfl) (by kernel_rfl) (by kernel_rfl) (fun _ _ _ h => h) (Or.inl ⟨by rfl, ?_⟩) (by assumption) ?_
          rotate_left 1
          · intro w hSw
            go_simp
            try with_reducible rfl
          try simp only [Act.put, List.getElem_toArray, List.getElem_cons_zero, List.getElem_cons_succ, List.setIfInBounds_toArray, List.set_cons_zero, List.set_cons_succ]
          refine wpAnyH_take (i := 4) (v := .string sp) rfl (by kernel_rfl) (by kernel_rfl) (by kernel_rfl) (fun _ _ _ h => h) (yields_conv (by rfl) _ rfl (.slice (some ⟨pg, 0, none⟩) n pc) sp rfl hcp) (by assumption) ?_
          try simp only [Act.put, List.getElem_toArray, List.getElem_cons_zero, List.getElem_cons_succ, List.setIfInBounds_toArray, List.set_cons_zero, List.set_cons_succ]
          refine wpAnyH_take (i := 5) (v := ?_) rfl (by kernel_rfl) (by kernel_rfl) (by kernel_rfl) (fun _ _ _ h => h) (Or.inl ⟨by rfl, ?_⟩) (by assumption) ?_
          rotate_left 1
          · intro w hSw
            go_simp
            try with_reducible rfl
          try simp only [Act.put, List.getElem_toArray, List.getElem_cons_zero, List.getElem_cons_succ, List.setIfInBounds_toArray, List.set_cons_zero, List.set_cons_succ]
          refine wpAnyH_take (i := 6) (v := .string sq) rfl (by kernel_rfl) (by kernel_rfl) (by kernel_rfl) (fun _ _ _ h => h) (yields_conv (by rfl) _ rfl (.slice (some ⟨qg, 0, none⟩) m qc) sq rfl hcq) (by assumption) ?_
          try simp only [Act.put, List.getElem_toArray, List.getElem_cons_zero, List.getElem_cons_succ, List.setIfInBounds_toArray, List.set_cons_zero, List.set_cons_succ]
          refine wpAnyH_take (i := 7) (v := ?_) rfl (by kernel_rfl) (by kernel_rfl) (by kernel_rfl) (fun _ _ _ h => h) (Or.inl ⟨by rfl, ?_⟩) (by assumption) ?_
          rotate_left 1
          · intro w hSw
            go_simp
            try with_reducible rfl
          try simp only [Act.put, List.getElem_toArray, List.getElem_cons_zero, List.getElem_cons_succ, List.setIfInBounds_toArray, List.set_cons_zero, List.set_cons_succ]
          try simp only [hss]
          refine wpAnyH_take (i := 8) (v := ?_) rfl (by kernel_rfl) (by kernel_rfl) (by kernel_rfl) (fun _ _ _ h => h) (Or.inl ⟨by rfl, ?_⟩) (by assumption) ?_
          rotate_left 1
          · intro w hSw
            go_simp
            try with_reducible rfl
          try simp only [Act.put, List.getElem_toArray, List.getElem_cons_zero, List.getElem_cons_succ, List.setIfInBounds_toArray, List.set_cons_zero, List.set_cons_succ]
          refine wpAnyH_take (i := 9) (v := ?_) rfl (by kernel_rfl) (by kernel_rfl) (by kernel_rfl) (fun _ _ _ h => h) (Or.inl ⟨by rfl, ?_⟩) (by assumption) ?_
          rotate_left 1
          · intro w hSw
            go_simp
            try with_reducible rfl
          try simp only [Act.put, List.getElem_toArray, List.getElem_cons_zero, List.getElem_cons_succ, List.setIfInBounds_toArray, List.set_cons_zero, List.set_cons_succ]
          refine wpAnyH_ready (rs := [10]) (by kernel_rfl) (by simp) ?_
          refine AllReadyH.cons rfl (fun K hK => ?_) AllReadyH.nil
          go_simp
          refine (show Calls Tryd.prog 20 #[lv, mv] w6.drew _ from HSQ.out 1).mono ?_
          rintro e w7 ⟨rfl, k7, hw7⟩
          have HW7 : Hid (w7 = w6.drewN (1 + k7)) := by unfold Hid; rw [hw7, World.drewN_drewN]
          clear hw7
          refine hK.out _ _ ⟨1 + k7, HW7.out⟩ (fun hHeld => ?_)
          clear hK K
          try simp only [Act.put, List.getElem_toArray, List.getElem_cons_zero, List.getElem_cons_succ, List.setIfInBounds_toArray, List.set_cons_zero, List.set_cons_succ]
          refine wpAnyH_take (i := 11) (v := ?_) rfl (by kernel_rfl) (by kernel_rfl) (by kernel_rfl) (fun _ _ _ h => h) (Or.inl ⟨by rfl, ?_⟩) (by assumption) ?_
          rotate_left 1
          · intro w hSw
            go_simp
            try with_reducible rfl
          try simp only [Act.put, List.getElem_toArray, List.getElem_cons_zero, List.getElem_cons_succ, List.setIfInBounds_toArray, List.set_cons_zero, List.set_cons_succ]
          refine wpAnyH_take (i := 12) (v := ?_) rfl (by kernel_rfl) (by kernel_rfl) (by kernel_rfl) (fun _ _ _ h => h) (Or.inl ⟨by rfl, ?_⟩) (by assumption) ?_
          rotate_left 1
          · intro w hSw
            go_simp
            try with_reducible rfl
          try simp only [Act.put, List.getElem_toArray, List.getElem_cons_zero, List.getElem_cons_succ, List.setIfInBounds_toArray, List.set_cons_zero, List.set_cons_succ]
          refine wpAnyH_take (i := 13) (v := ?_) rfl (by kernel_rfl) (by kernel_rfl) (by kernel_rfl) (fun _ _ _ h => h) (Or.inl ⟨by rfl, ?_⟩) (by assumption) ?_
          rotate_left 1
          · intro w hSw
            go_simp
            try with_reducible rfl
          try simp only [Act.put, List.getElem_toArray, List.getElem_cons_zero, List.getElem_cons_succ, List.setIfInBounds_toArray, List.set_cons_zero, List.set_cons_succ]
          refine wpAnyH_take (i := 14) (v := ?_) rfl (by kernel_rfl) (by kernel_rfl) (by kernel_rfl) (fun _ _ _ h => h) (Or.inl ⟨by rfl, ?_⟩) (by assumption) ?_
          rotate_left 1
          · intro w hSw
            go_simp
            try with_reducible rfl
          try simp only [Act.put, List.getElem_toArray, List.getElem_cons_zero, List.getElem_cons_succ, List.setIfInBounds_toArray, List.set_cons_zero, List.set_cons_succ]
          refine wpAnyH_take (i := 15) (v := ?_) rfl (by kernel_rfl) (by kernel_rfl) (by kernel_rfl) (fun _ _ _ h => h) (Or.inl ⟨by rfl, ?_⟩) (by assumption) ?_
          rotate_left 1
          · intro w hSw
            go_simp
            try with_reducible rfl
          try simp only [Act.put, List.getElem_toArray, List.getElem_cons_zero, List.getElem_cons_succ, List.setIfInBounds_toArray, List.set_cons_zero, List.set_cons_succ]
          refine wpAnyH_take (i := 16) (v := ?_) rfl (by kernel_rfl) (by kernel_rfl) (by kernel_rfl) (fun _ _ _ h => h) (Or.inl ⟨by rfl, ?_⟩) (by assumption) ?_
          rotate_left 1
          · intro w hSw
            go_simp
            try with_reducible rfl
          try simp only [Act.put, List.getElem_toArray, List.getElem_cons_zero, List.getElem_cons_succ, List.setIfInBounds_toArray, List.set_cons_zero, List.set_cons_succ]
          refine wpAnyH_take (i := 17) (v := ?_) rfl (by kernel_rfl) (by kernel_rfl) (by kernel_rfl) (fun _ _ _ h => h) (Or.inl ⟨by rfl, ?_⟩) (by assumption) ?_
          rotate_left 1
          · intro w hSw
            go_simp
            try with_reducible rfl
          try simp only [Act.put, List.getElem_toArray, List.getElem_cons_zero, List.getElem_cons_succ, List.setIfInBounds_toArray, List.set_cons_zero, List.set_cons_succ]
          refine wpAnyH_take (i := 18) (v := ?_) rfl (by kernel_rfl) (by kernel_rfl) (by kernel_rfl) (fun _ _ _ h => h) (Or.inl ⟨by rfl, ?_⟩) (by assumption) ?_
          rotate_left 1
          · intro w hSw
            go_simp
            try with_reducible rfl
          try simp only [Act.put, List.getElem_toArray, List.getElem_cons_zero, List.getElem_cons_succ, List.setIfInBounds_toArray, List.set_cons_zero, List.set_cons_succ]
          refine wpAnyH_take (i := 19) (v := ?_) rfl (by kernel_rfl) (by kernel_rfl) (by kernel_rfl) (fun _ _ _ h => h) (Or.inl ⟨by rfl, ?_⟩) (by assumption) ?_
          rotate_left 1
          · intro w hSw
            go_simp
            try with_reducible rfl
          try simp only [Act.put, List.getElem_toArray, List.getElem_cons_zero, List.getElem_cons_succ, List.setIfInBounds_toArray, List.set_cons_zero, List.set_cons_succ]
          refine wpAnyH_take (i := 20) (v := ?_) rfl (by kernel_rfl) (by kernel_rfl) (by kernel_rfl) (fun _ _ _ h => h) (Or.inl ⟨by rfl, ?_⟩) (by assumption) ?_
          rotate_left 1
          · intro w hSw
            go_simp
            try with_reducible rfl
          try simp only [Act.put, List.getElem_toArray, List.getElem_cons_zero, List.getElem_cons_succ, List.setIfInBounds_toArray, List.set_cons_zero, List.set_cons_succ]
          refine wpAnyH_take (i := 21) (v := ?_) rfl (by kernel_rfl) (by kernel_rfl) (by kernel_rfl) (fun _ _ _ h => h) (Or.inl ⟨by rfl, ?_⟩) (by assumption) ?_
          rotate_left 1
          · intro w hSw
            go_simp
            try with_reducible rfl
          try simp only [Act.put, List.getElem_toArray, List.getElem_cons_zero, List.getElem_cons_succ, List.setIfInBounds_toArray, List.set_cons_zero, List.set_cons_succ]
          refine wpAnyH_take (i := 22) (v := ?_) rfl (by kernel_rfl) (by kernel_rfl) (by kernel_rfl) (fun _ _ _ h => h) (Or.inl ⟨by rfl, ?_⟩) (by assumption) ?_
          rotate_left 1
          · intro w hSw
            go_simp
            try with_reducible rfl
          try simp only [Act.put, List.getElem_toArray, List.getElem_cons_zero, List.getElem_cons_succ, List.setIfInBounds_toArray, List.set_cons_zero, List.set_cons_succ]
          refine wpAnyH_take (i := 23) (v := ?_) rfl (by kernel_rfl) (by kernel_rfl) (by kernel_rfl) (fun _ _ _ h => h) (Or.inl ⟨by rfl, ?_⟩) (by assumption) ?_
          rotate_left 1
          · intro w hSw
            go_simp
            try with_reducible rfl
          try simp only [Act.put, List.getElem_toArray, List.getElem_cons_zero, List.getElem_cons_succ, List.setIfInBounds_toArray, List.set_cons_zero, List.set_cons_succ]
          refine wpAnyH_take (i := 24) (v := undef) rfl (by kernel_rfl) (by kernel_rfl) (by kernel_rfl) (fun _ _ _ h => h) (Or.inr ⟨by rfl, rfl⟩) (by assumption) ?_
          try simp only [Act.put, List.getElem_toArray, List.getElem_cons_zero, List.getElem_cons_succ, List.setIfInBounds_toArray, List.set_cons_zero, List.set_cons_succ]
          refine wpAnyH_take (i := 25) (v := undef) rfl (by kernel_rfl) (by kernel_rfl) (by kernel_rfl) (fun _ _ _ h => h) (Or.inr ⟨by rfl, rfl⟩) (by assumption) ?_
          try simp only [Act.put, List.getElem_toArray, List.getElem_cons_zero, List.getElem_cons_succ, List.setIfInBounds_toArray, List.set_cons_zero, List.set_cons_succ]
          refine wpAnyH_take (i := 26) (v := undef) rfl (by kernel_rfl) (by kernel_rfl) (by kernel_rfl) (fun _ _ _ h => h) (Or.inr ⟨by rfl, rfl⟩) (by assumption) ?_
          try simp only [Act.put, List.getElem_toArray, List.getElem_cons_zero, List.getElem_cons_succ, List.setIfInBounds_toArray, List.set_cons_zero, List.set_cons_succ]
          refine wpAnyH_take (i := 27) (v := undef) rfl (by kernel_rfl) (by kernel_rfl) (by kernel_rfl) (fun _ _ _ h => h) (Or.inr ⟨by rfl, rfl⟩) (by assumption) ?_
          try simp only [Act.put, List.getElem_toArray, List.getElem_cons_zero, List.getElem_cons_succ, List.setIfInBounds_toArray, List.set_cons_zero, List.set_cons_succ]
          refine wpAnyH_take (i := 28) (v := undef) rfl (by kernel_rfl) (by kernel_rfl) (by kernel_rfl) (fun _ _ _ h => h) (Or.inr ⟨by rfl, rfl⟩) (by assumption) ?_
          try simp only [Act.put, List.getElem_toArray, List.getElem_cons_zero, List.getElem_cons_succ, List.setIfInBounds_toArray, List.set_cons_zero, List.set_cons_succ]
          refine wpAnyH_take (i := 29) (v := undef) rfl (by kernel_rfl) (by kernel_rfl) (by kernel_rfl) (fun _ _ _ h => h) (Or.inr ⟨by rfl, rfl⟩) (by assumption) ?_
          try simp only [Act.put, List.getElem_toArray, List.getElem_cons_zero, List.getElem_cons_succ, List.setIfInBounds_toArray, List.set_cons_zero, List.set_cons_succ]
          refine wpAnyH_take (i := 30) (v := undef) rfl (by kernel_rfl) (by kernel_rfl) (by kernel_rfl) (fun _ _ _ h => h) (Or.inr ⟨by rfl, rfl⟩) (by assumption) ?_
          try simp only [Act.put, List.getElem_toArray, List.getElem_cons_zero, List.getElem_cons_succ, List.setIfInBounds_toArray, List.set_cons_zero, List.set_cons_succ]
          refine wpAnyH_take (i := 31) (v := undef) rfl (by kernel_rfl) (by kernel_rfl) (by kernel_rfl) (fun _ _ _ h => h) (Or.inr ⟨by rfl, rfl⟩) (by assumption) ?_
          try simp only [Act.put, List.getElem_toArray, List.getElem_cons_zero, List.getElem_cons_succ, List.setIfInBounds_toArray, List.set_cons_zero, List.set_cons_succ]
          refine wpAnyH_take (i := 32) (v := ?_) rfl (by kernel_rfl) (by kernel_rfl) (by kernel_rfl) (fun _ _ _ h => h) (Or.inl ⟨by rfl, ?_⟩) (by assumption) ?_
          rotate_left 1
          · intro w hSw
            go_simp
            try with_reducible rfl
          try simp only [Act.put, List.getElem_toArray, List.getElem_cons_zero, List.getElem_cons_succ, List.setIfInBounds_toArray, List.set_cons_zero, List.set_cons_succ]
          refine wpAnyH_take (i := 33) (v := ?_) rfl (by kernel_rfl) (by kernel_rfl) (by kernel_rfl) (fun _ _ _ h => h) (Or.inl ⟨by rfl, ?_⟩) (by assumption) ?_
          rotate_left 1
          · intro w hSw
            go_simp
            try with_reducible rfl
          try simp only [Act.put, List.getElem_toArray, List.getElem_cons_zero, List.getElem_cons_succ, List.setIfInBounds_toArray, List.set_cons_zero, List.set_cons_succ]
          refine wpAnyH_done (by kernel_rfl) ?_ _
          have HK7 : Hid (Kept (fun _ => False) w w7) := by unfold Hid; rw [HW7.out]; exact kept_drewN HK6.out _
          clear HW7 HSQ hcp hcq hss HK6
          try clear hcf hf
          have HDB := hid_of (dec_call g bo bc xs w7 (HX.out.kept HK7.out (fun f => f)) (Nat.lt_of_lt_of_le hgl HK7.out.size) HB.out)
          rw [← HN.out] at HDB
          go_wp2_with fail
          refine HDB.out.mono ?_
          rintro e wA ⟨xv, rfl, hrA, hkA, hltA⟩
          clear HDB
          have hKA := HK7.out.trans hkA
          have HIA := hid_of (HIB.out.kept hKA (fun _ _ f => f))
          have HKA := hid_of hKA
          by_cases hz : decK xs = 0
          · obtain ⟨b1, b2, b3, b4⟩ := back_enc HB.out hz
            have HEX := hid_of (enc_call xv (decL xs) wA hrA (fun g hg => (hltA g hg).2) (fun y hy => ⟨(b4 y hy).1, (b4 y hy).2.1, by rcases (b4 y hy).2.2 with e | e <;> omega⟩) (fun _ => by rw [b3, b2]))
            rw [hz]
            clear hrA hkA hltA hKA b3 b4 hz
            go_wp2_with fail
            refine HEX.out.mono ?_
            rintro e wB ⟨hkB, ⟨_, v', rfl, hoB⟩ | ⟨hne, _⟩⟩
            · rw [b2] at hoB
              have hc1 := conv_str wB v' xs (isB_own hoB)
              have hc2 := conv_str wB _ xs (HIA.out.kept hkB (fun _ _ f => f))
              rw [← HN.out] at hc2
              generalize str xs = sx at *
              have hss : (sx.toList == sx.toList) = true := by simp
              have HKB := hid_of (HKA.out.trans hkB)
              clear hoB hkB HEX b1 b2
              go_wp2
              go_ret
              exact ⟨rfl, HKB.out⟩
            · exact absurd b1 hne
          · rw [decL_nil hz] at hrA
            obtain ⟨xo, xc, hxv⟩ := hrA.shape
            have hxv' : xv = .slice xo 0 xc := hxv
            subst hxv'
            obtain ⟨dk, hdk⟩ : ∃ dk, dk = decK xs := ⟨_, rfl⟩
            rw [← hdk] at hz ⊢
            have hz1 : (dk != 0) = true := by simpa using hz
            have hz2 : (dk == 0) = false := by simpa using hz
            clear hz hdk hrA hkA hltA hKA hxv
            go_wp2
            go_ret
            exact ⟨rfl, HKA.out⟩
        · go_upto_region 11 with fail
          refine wp_region_held_drew (S := fun w' => ∃ d, w' = w6.drewN d) (by kernel_rfl) ⟨1, rfl⟩ (fun hHeld => ?_)
          refine wpAnyH_take (i := 0) (v := ?_) rfl (by kernel_rfl) (by kernel_rfl) (by kernel_rfl) (fun _ _ _ h => h) (Or.inl ⟨by rfl, ?_⟩) (by assumption) ?_
          rotate_left 1
          · intro w hSw
            go_simp
            try with_reducible rfl
          try simp only [Act.put, List.getElem_toArray, List.getElem_cons_zero, List.getElem_cons_succ, List.setIfInBounds_toArray, List.set_cons_zero, List.set_cons_succ]
          refine wpAnyH_take (i := 1) (v := ?_) rfl (by kernel_rfl) (by kernel_rfl) (by kernel_rfl) (fun _ _ _ h => h) (Or.inl ⟨by rfl, ?_⟩) (by assumption) ?_
          rotate_left 1
          · intro w hSw
            go_simp
            try with_reducible rfl
          try simp only [Act.put, List.getElem_toArray, List.getElem_cons_zero, List.getElem_cons_succ, List.setIfInBounds_toArray, List.set_cons_zero, List.set_cons_succ]
          refine wpAnyH_take (i := 2) (v := ?_) rfl (by kernel_rfl) (by kernel_rfl) (by kernel_rfl) (fun _ _ _ h => h) (Or.inl ⟨by rfl, ?_⟩) (by assumption) ?_
          rotate_left 1
          · intro w hSw
            go_simp
            try with_reducible rfl
          try simp only [Act.put, List.getElem_toArray, List.getElem_cons_zero, List.getElem_cons_succ, List.setIfInBounds_toArray, List.set_cons_zero, List.set_cons_succ]
          refine wpAnyH_take (i := 3) (v := ?_) rfl (by kernel_rfl) (by kernel_rfl) (by kernel_rfl) (fun _ _ _ h => h) (Or.inl ⟨by rfl, ?_⟩) (by assumption) ?_
          rotate_left 1
          · intro w hSw
            go_simp
            try with_reducible rfl
          try simp only [Act.put, List.getElem_toArray, List.getElem_cons_zero, List.getElem_cons_succ, List.setIfInBounds_toArray, List.set_cons_zero, List.set_cons_succ]
          refine wpAnyH_take (i := 4) (v := .string sp) rfl (by kernel_rfl) (by kernel_rfl) (by kernel_rfl) (fun _ _ _ h => h) (yields_conv (by rfl) _ rfl (.slice (some ⟨pg, 0, none⟩) n pc) sp rfl hcp) (by assumption) ?_
          try simp only [Act.put, List.getElem_toArray, List.getElem_cons_zero, List.getElem_cons_succ, List.setIfInBounds_toArray, List.set_cons_zero, List.set_cons_succ]
          refine wpAnyH_take (i := 5) (v := ?_) rfl (by kernel_rfl) (by kernel_rfl) (by kernel_rfl) (fun _ _ _ h => h) (Or.inl ⟨by rfl, ?_⟩) (by assumption) ?_
          rotate_left 1
          · intro w hSw
            go_simp
            try with_reducible rfl
          try simp only [Act.put, List.getElem_toArray, List.getElem_cons_zero, List.getElem_cons_succ, List.setIfInBounds_toArray, List.set_cons_zero, List.set_cons_succ]
          refine wpAnyH_take (i := 6) (v := .string sq) rfl (by kernel_rfl) (by kernel_rfl) (by kernel_rfl) (fun _ _ _ h => h) (yields_conv (by rfl) _ rfl (.slice (some ⟨qg, 0, none⟩) m qc) sq rfl hcq) (by assumption) ?_
          try simp only [Act.put, List.getElem_toArray, List.getElem_cons_zero, List.getElem_cons_succ, List.setIfInBounds_toArray, List.set_cons_zero, List.set_cons_succ]
          refine wpAnyH_take (i := 7) (v := ?_) rfl (by kernel_rfl) (by kernel_rfl) (by kernel_rfl) (fun _ _ _ h => h) (Or.inl ⟨by rfl, ?_⟩) (by assumption) ?_
          rotate_left 1
          · intro w hSw
            go_simp
            try with_reducible rfl
          try simp only [Act.put, List.getElem_toArray, List.getElem_cons_zero, List.getElem_cons_succ, List.setIfInBounds_toArray, List.set_cons_zero, List.set_cons_succ]
          try simp only [hss]
          refine wpAnyH_take (i := 8) (v := ?_) rfl (by kernel_rfl) (by kernel_rfl) (by kernel_rfl) (fun _ _ _ h => h) (Or.inl ⟨by rfl, ?_⟩) (by assumption) ?_
          rotate_left 1
          · intro w hSw
            go_simp
            try with_reducible rfl
          try simp only [Act.put, List.getElem_toArray, List.getElem_cons_zero, List.getElem_cons_succ, List.setIfInBounds_toArray, List.set_cons_zero, List.set_cons_succ]
          refine wpAnyH_take (i := 9) (v := ?_) rfl (by kernel_rfl) (by kernel_rfl) (by kernel_rfl) (fun _ _ _ h => h) (Or.inl ⟨by rfl, ?_⟩) (by assumption) ?_
          rotate_left 1
          · intro w hSw
            go_simp
            try with_reducible rfl
          try simp only [Act.put, List.getElem_toArray, List.getElem_cons_zero, List.getElem_cons_succ, List.setIfInBounds_toArray, List.set_cons_zero, List.set_cons_succ]
          refine wpAnyH_ready (rs := [10]) (by kernel_rfl) (by simp) ?_
          refine AllReadyH.cons rfl (fun K hK => ?_) AllReadyH.nil
          go_simp
          refine (show Calls Tryd.prog 20 #[lv, mv] w6.drew _ from HSQ.out 1).mono ?_
          rintro e w7 ⟨rfl, k7, hw7⟩
          have HW7 : Hid (w7 = w6.drewN (1 + k7)) := by unfold Hid; rw [hw7, World.drewN_drewN]
          clear hw7
          refine hK.out _ _ ⟨1 + k7, HW7.out⟩ (fun hHeld => ?_)
          clear hK K
          try simp only [Act.put, List.getElem_toArray, List.getElem_cons_zero, List.getElem_cons_succ, List.setIfInBounds_toArray, List.set_cons_zero, List.set_cons_succ]
          refine wpAnyH_take (i := 11) (v := ?_) rfl (by kernel_rfl) (by kernel_rfl) (by kernel_rfl) (fun _ _ _ h => h) (Or.inl ⟨by rfl, ?_⟩) (by assumption) ?_
          rotate_left 1
          · intro w hSw
            go_simp
            try with_reducible rfl
          try simp only [Act.put, List.getElem_toArray, List.getElem_cons_zero, List.getElem_cons_succ, List.setIfInBounds_toArray, List.set_cons_zero, List.set_cons_succ]
          refine wpAnyH_take (i := 12) (v := ?_) rfl (by kernel_rfl) (by kernel_rfl) (by kernel_rfl) (fun _ _ _ h => h) (Or.inl ⟨by rfl, ?_⟩) (by assumption) ?_
          rotate_left 1
          · intro w hSw
            go_simp
            try with_reducible rfl
          try simp only [Act.put, List.getElem_toArray, List.getElem_cons_zero, List.getElem_cons_succ, List.setIfInBounds_toArray, List.set_cons_zero, List.set_cons_succ]
          refine wpAnyH_take (i := 13) (v := ?_) rfl (by kernel_rfl) (by kernel_rfl) (by kernel_rfl) (fun _ _ _ h => h) (Or.inl ⟨by rfl, ?_⟩) (by assumption) ?_
          rotate_left 1
          · intro w hSw
            go_simp
            try with_reducible rfl
          try simp only [Act.put, List.getElem_toArray, List.getElem_cons_zero, List.getElem_cons_succ, List.setIfInBounds_toArray, List.set_cons_zero, List.set_cons_succ]
          refine wpAnyH_take (i := 14) (v := ?_) rfl (by kernel_rfl) (by kernel_rfl) (by kernel_rfl) (fun _ _ _ h => h) (Or.inl ⟨by rfl, ?_⟩) (by assumption) ?_
          rotate_left 1
          · intro w hSw
            go_simp
            try with_reducible rfl
          try simp only [Act.put, List.getElem_toArray, List.getElem_cons_zero, List.getElem_cons_succ, List.setIfInBounds_toArray, List.set_cons_zero, List.set_cons_succ]
          refine wpAnyH_take (i := 15) (v := ?_) rfl (by kernel_rfl) (by kernel_rfl) (by kernel_rfl) (fun _ _ _ h => h) (Or.inl ⟨by rfl, ?_⟩) (by assumption) ?_
          rotate_left 1
          · intro w hSw
            go_simp
            try with_reducible rfl
          try simp only [Act.put, List.getElem_toArray, List.getElem_cons_zero, List.getElem_cons_succ, List.setIfInBounds_toArray, List.set_cons_zero, List.set_cons_succ]
          refine wpAnyH_take (i := 16) (v := ?_) rfl (by kernel_rfl) (by kernel_rfl) (by kernel_rfl) (fun _ _ _ h => h) (Or.inl ⟨by rfl, ?_⟩) (by assumption) ?_
          rotate_left 1
          · intro w hSw
            go_simp
            try with_reducible rfl
          try simp only [Act.put, List.getElem_toArray, List.getElem_cons_zero, List.getElem_cons_succ, List.setIfInBounds_toArray, List.set_cons_zero, List.set_cons_succ]
          refine wpAnyH_take (i := 17) (v := ?_) rfl (by kernel_rfl) (by kernel_rfl) (by kernel_rfl) (fun _ _ _ h => h) (Or.inl ⟨by rfl, ?_⟩) (by assumption) ?_
          rotate_left 1
          · intro w hSw
            go_simp
            try with_reducible rfl
          try simp only [Act.put, List.getElem_toArray, List.getElem_cons_zero, List.getElem_cons_succ, List.setIfInBounds_toArray, List.set_cons_zero, List.set_cons_succ]
          refine wpAnyH_take (i := 18) (v := ?_) rfl (by kernel_rfl) (by kernel_rfl) (by kernel_rfl) (fun _ _ _ h => h) (Or.inl ⟨by rfl, ?_⟩) (by assumption) ?_
          rotate_left 1
          · intro w hSw
            go_simp
            try with_reducible rfl
          try simp only [Act.put, List.getElem_toArray, List.getElem_cons_zero, List.getElem_cons_succ, List.setIfInBounds_toArray, List.set_cons_zero, List.set_cons_succ]
          refine wpAnyH_take (i := 19) (v := ?_) rfl (by kernel_rfl) (by kernel_rfl) (by kernel_rfl) (fun _ _ _ h => h) (Or.inl ⟨by rfl, ?_⟩) (by assumption) ?_
          rotate_left 1
          · intro w hSw
            go_simp
            try with_reducible rfl
          try simp only [Act.put, List.getElem_toArray, List.getElem_cons_zero, List.getElem_cons_succ, List.setIfInBounds_toArray, List.set_cons_zero, List.set_cons_succ]
          refine wpAnyH_take (i := 20) (v := ?_) rfl (by kernel_rfl) (by kernel_rfl) (by kernel_rfl) (fun _ _ _ h => h) (Or.inl ⟨by rfl, ?_⟩) (by assumption) ?_
          rotate_left 1
          · intro w hSw
            go_simp
            try with_reducible rfl
          try simp only [Act.put, List.getElem_toArray, List.getElem_cons_zero, List.getElem_cons_succ, List.setIfInBounds_toArray, List.set_cons_zero, List.set_cons_succ]
          refine wpAnyH_take (i := 21) (v := ?_) rfl (by kernel_rfl) (by kernel_rfl) (by kernel_rfl) (fun _ _ _ h => h) (Or.inl ⟨by rfl, ?_⟩) (by assumption) ?_
          rotate_left 1
          · intro w hSw
            go_simp
            try with_reducible rfl
          try simp only [Act.put, List.getElem_toArray, List.getElem_cons_zero, List.getElem_cons_succ, List.setIfInBounds_toArray, List.set_cons_zero, List.set_cons_succ]
          refine wpAnyH_take (i := 22) (v := ?_) rfl (by kernel_rfl) (by kernel_rfl) (by kernel_rfl) (fun _ _ _ h => h) (Or.inl ⟨by rfl, ?_⟩) (by assumption) ?_
          rotate_left 1
          · intro w hSw
            go_simp
            try with_reducible rfl
          try simp only [Act.put, List.getElem_toArray, List.getElem_cons_zero, List.getElem_cons_succ, List.setIfInBounds_toArray, List.set_cons_zero, List.set_cons_succ]
          refine wpAnyH_take (i := 23) (v := ?_) rfl (by kernel_rfl) (by kernel_rfl) (by kernel_rfl) (fun _ _ _ h => h) (Or.inl ⟨by rfl, ?_⟩) (by assumption) ?_
          rotate_left 1
          · intro w hSw
            go_simp
            try with_reducible rfl
          try simp only [Act.put, List.getElem_toArray, List.getElem_cons_zero, List.getElem_cons_succ, List.setIfInBounds_toArray, List.set_cons_zero, List.set_cons_succ]
          refine wpAnyH_take (i := 24) (v := undef) rfl (by kernel_rfl) (by kernel_rfl) (by kernel_rfl) (fun _ _ _ h => h) (Or.inr ⟨by rfl, rfl⟩) (by assumption) ?_
          try simp only [Act.put, List.getElem_toArray, List.getElem_cons_zero, List.getElem_cons_succ, List.setIfInBounds_toArray, List.set_cons_zero, List.set_cons_succ]
          refine wpAnyH_take (i := 25) (v := undef) rfl (by kernel_rfl) (by kernel_rfl) (by kernel_rfl) (fun _ _ _ h => h) (Or.inr ⟨by rfl, rfl⟩) (by assumption) ?_
          try simp only [Act.put, List.getElem_toArray, List.getElem_cons_zero, List.getElem_cons_succ, List.setIfInBounds_toArray, List.set_cons_zero, List.set_cons_succ]
          refine wpAnyH_take (i := 26) (v := undef) rfl (by kernel_rfl) (by kernel_rfl) (by kernel_rfl) (fun _ _ _ h => h) (Or.inr ⟨by rfl, rfl⟩) (by assumption) ?_
          try simp only [Act.put, List.getElem_toArray, List.getElem_cons_zero, List.getElem_cons_succ, List.setIfInBounds_toArray, List.set_cons_zero, List.set_cons_succ]
          refine wpAnyH_take (i := 27) (v := undef) rfl (by kernel_rfl) (by kernel_rfl) (by kernel_rfl) (fun _ _ _ h => h) (Or.inr ⟨by rfl, rfl⟩) (by assumption) ?_
          try simp only [Act.put, List.getElem_toArray, List.getElem_cons_zero, List.getElem_cons_succ, List.setIfInBounds_toArray, List.set_cons_zero, List.set_cons_succ]
          refine wpAnyH_take (i := 28) (v := undef) rfl (by kernel_rfl) (by kernel_rfl) (by kernel_rfl) (fun _ _ _ h => h) (Or.inr ⟨by rfl, rfl⟩) (by assumption) ?_
          try simp only [Act.put, List.getElem_toArray, List.getElem_cons_zero, List.getElem_cons_succ, List.setIfInBounds_toArray, List.set_cons_zero, List.set_cons_succ]
          refine wpAnyH_take (i := 29) (v := undef) rfl (by kernel_rfl) (by kernel_rfl) (by kernel_rfl) (fun _ _ _ h => h) (Or.inr ⟨by rfl, rfl⟩) (by assumption) ?_
          try simp only [Act.put, List.getElem_toArray, List.getElem_cons_zero, List.getElem_cons_succ, List.setIfInBounds_toArray, List.set_cons_zero, List.set_cons_succ]
          refine wpAnyH_take (i := 30) (v := undef) rfl (by kernel_rfl) (by kernel_rfl) (by kernel_rfl) (fun _ _ _ h => h) (Or.inr ⟨by rfl, rfl⟩) (by assumption) ?_
          try simp only [Act.put, List.getElem_toArray, List.getElem_cons_zero, List.getElem_cons_succ, List.setIfInBounds_toArray, List.set_cons_zero, List.set_cons_succ]
          refine wpAnyH_take (i := 31) (v := undef) rfl (by kernel_rfl) (by kernel_rfl) (by kernel_rfl) (fun _ _ _ h => h) (Or.inr ⟨by rfl, rfl⟩) (by assumption) ?_
          try simp only [Act.put, List.getElem_toArray, List.getElem_cons_zero, List.getElem_cons_succ, List.setIfInBounds_toArray, List.set_cons_zero, List.set_cons_succ]
          refine wpAnyH_take (i := 32) (v := ?_) rfl (by kernel_rfl) (by kernel_rfl) (by kernel_rfl) (fun _ _ _ h => h) (Or.inl ⟨by rfl, ?_⟩) (by assumption) ?_
          rotate_left 1
          · intro w hSw
            go_simp
            try with_reducible rfl
          try simp only [Act.put, List.getElem_toArray, List.getElem_cons_zero, List.getElem_cons_succ, List.setIfInBounds_toArray, List.set_cons_zero, List.set_cons_succ]
          refine wpAnyH_take (i := 33) (v := ?_) rfl (by kernel_rfl) (by kernel_rfl) (by kernel_rfl) (fun _ _ _ h => h) (Or.inl ⟨by rfl, ?_⟩) (by assumption) ?_
          rotate_left 1
          · intro w hSw
            go_simp
            try with_reducible rfl
          try simp only [Act.put, List.getElem_toArray, List.getElem_cons_zero, List.getElem_cons_succ, List.setIfInBounds_toArray, List.set_cons_zero, List.set_cons_succ]
          refine wpAnyH_done (by kernel_rfl) ?_ _
          have HK7 : Hid (Kept (fun _ => False) w w7) := by unfold Hid; rw [HW7.out]; exact kept_drewN HK6.out _
          clear HW7 HSQ hcp hcq hss HK6
          try clear hcf hf
          have HDB := hid_of (dec_call g bo bc xs w7 (HX.out.kept HK7.out (fun f => f)) (Nat.lt_of_lt_of_le hgl HK7.out.size) HB.out)
          rw [← HN.out] at HDB
          go_wp2_with fail
          refine HDB.out.mono ?_
          rintro e wA ⟨xv, rfl, hrA, hkA, hltA⟩
          clear HDB
          have hKA := HK7.out.trans hkA
          have HIA := hid_of (HIB.out.kept hKA (fun _ _ f => f))
          have HKA := hid_of hKA
          by_cases hz : decK xs = 0
          · obtain ⟨b1, b2, b3, b4⟩ := back_enc HB.out hz
            have HEX := hid_of (enc_call xv (decL xs) wA hrA (fun g hg => (hltA g hg).2) (fun y hy => ⟨(b4 y hy).1, (b4 y hy).2.1, by rcases (b4 y hy).2.2 with e | e <;> omega⟩) (fun _ => by rw [b3, b2]))
            rw [hz]
            clear hrA hkA hltA hKA b3 b4 hz
            go_wp2_with fail
            refine HEX.out.mono ?_
            rintro e wB ⟨hkB, ⟨_, v', rfl, hoB⟩ | ⟨hne, _⟩⟩
            · rw [b2] at hoB
              have hc1 := conv_str wB v' xs (isB_own hoB)
              have hc2 := conv_str wB _ xs (HIA.out.kept hkB (fun _ _ f => f))
              rw [← HN.out] at hc2
              generalize str xs = sx at *
              have hss : (sx.toList == sx.toList) = true := by simp
              have HKB := hid_of (HKA.out.trans hkB)
              clear hoB hkB HEX b1 b2
              go_wp2
              go_ret
              exact ⟨rfl, HKB.out⟩
            · exact absurd b1 hne
          · rw [decL_nil hz] at hrA
            obtain ⟨xo, xc, hxv⟩ := hrA.shape
            have hxv' : xv = .slice xo 0 xc := hxv
            subst hxv'
            obtain ⟨dk, hdk⟩ : ∃ dk, dk = decK xs := ⟨_, rfl⟩
            rw [← hdk] at hz ⊢
            have hz1 : (dk != 0) = true := by simpa using hz
            have hz2 : (dk == 0) = false := by simpa using hz
            clear hz hdk hrA hkA hltA hKA hxv
            go_wp2
            go_ret
            exact ⟨rfl, HKA.out⟩
    · have HK6 := hid_of (HK5.out.trans hk6)
      obtain ⟨cd, hcd⟩ : ∃ cd, cd = checkD nameP zs := ⟨_, rfl⟩
      rw [← hcd] at hc' ⊢
      have hc1 : (cd != 0) = true := by simpa using hc'
      have hc2 : (cd == 0) = false := by simpa using hc'
      clear hc' hcd hk6 HEM HPI5 HK5
      go_upto_region 11 with fail
      go_quiet (fail)
      generalize hwT : w6.drewN _ = w7 at *
      have HK7 : Hid (Kept (fun _ => False) w w7) := by unfold Hid; rw [← hwT]; exact kept_drewN HK6.out _
      clear hwT HK6
      have HDB := hid_of (dec_call g bo bc xs w7 (HX.out.kept HK7.out (fun f => f)) (Nat.lt_of_lt_of_le hgl HK7.out.size) HB.out)
      rw [← HN.out] at HDB
      go_wp2_with fail
      refine HDB.out.mono ?_
      rintro e wA ⟨xv, rfl, hrA, hkA, hltA⟩
      clear HDB
      have hKA := HK7.out.trans hkA
      have HIA := hid_of (HIB.out.kept hKA (fun _ _ f => f))
      have HKA := hid_of hKA
      by_cases hz : decK xs = 0
      · obtain ⟨b1, b2, b3, b4⟩ := back_enc HB.out hz
        have HEX := hid_of (enc_call xv (decL xs) wA hrA (fun g hg => (hltA g hg).2) (fun y hy => ⟨(b4 y hy).1, (b4 y hy).2.1, by rcases (b4 y hy).2.2 with e | e <;> omega⟩) (fun _ => by rw [b3, b2]))
        rw [hz]
        clear hrA hkA hltA hKA b3 b4 hz
        go_wp2_with fail
        refine HEX.out.mono ?_
        rintro e wB ⟨hkB, ⟨_, v', rfl, hoB⟩ | ⟨hne, _⟩⟩
        · rw [b2] at hoB
          have hc1 := conv_str wB v' xs (isB_own hoB)
          have hc2 := conv_str wB _ xs (HIA.out.kept hkB (fun _ _ f => f))
          rw [← HN.out] at hc2
          generalize str xs = sx at *
          have hss : (sx.toList == sx.toList) = true := by simp
          have HKB := hid_of (HKA.out.trans hkB)
          clear hoB hkB HEX b1 b2
          go_wp2
          go_ret
          exact ⟨rfl, HKB.out⟩
        · exact absurd b1 hne
      · rw [decL_nil hz] at hrA
        obtain ⟨xo, xc, hxv⟩ := hrA.shape
        have hxv' : xv = .slice xo 0 xc := hxv
        subst hxv'
        obtain ⟨dk, hdk⟩ : ∃ dk, dk = decK xs := ⟨_, rfl⟩
        rw [← hdk] at hz ⊢
        have hz1 : (dk != 0) = true := by simpa using hz
        have hz2 : (dk == 0) = false := by simpa using hz
        clear hz hdk hrA hkA hltA hKA hxv
        go_wp2
        go_ret
        exact ⟨rfl, HKA.out⟩
  · have HK2 := hid_of (HK1.out.trans hk2)
    have HCK := hid_of (check_any nameP nameC lv ys w2 (HL.out.kept HK2.out (fun _ _ f => f)) (fun y hy => (HYO.out y hy).fr.1) (fun y hy => (HYO.out y hy).nm))
    obtain ⟨cd, hcd⟩ : ∃ cd, cd = checkD nameP ys := ⟨_, rfl⟩
    rw [← hcd] at hc HCK ⊢
    have hc1 : (cd != 0) = true := by simpa using hc
    have hc2 : (cd == 0) = false := by simpa using hc
    clear hc hcd hk2 HEN HK1
    go_wp2_with fail
    refine HCK.out.mono ?_
    rintro e w3 ⟨rfl, hk3⟩
    have HK3 := hid_of (HK2.out.trans hk3)
    clear hk3 HCK HK2
    have HDB := hid_of (dec_call g bo bc xs w3 (HX.out.kept HK3.out (fun f => f)) (Nat.lt_of_lt_of_le hgl HK3.out.size) HB.out)
    rw [← HN.out] at HDB
    go_wp2_with fail
    refine HDB.out.mono ?_
    rintro e wA ⟨xv, rfl, hrA, hkA, hltA⟩
    clear HDB
    have hKA := HK3.out.trans hkA
    have HIA := hid_of (HIB.out.kept hKA (fun _ _ f => f))
    have HKA := hid_of hKA
    by_cases hz : decK xs = 0
    · obtain ⟨b1, b2, b3, b4⟩ := back_enc HB.out hz
      have HEX := hid_of (enc_call xv (decL xs) wA hrA (fun g hg => (hltA g hg).2) (fun y hy => ⟨(b4 y hy).1, (b4 y hy).2.1, by rcases (b4 y hy).2.2 with e | e <;> omega⟩) (fun _ => by rw [b3, b2]))
      rw [hz]
      clear hrA hkA hltA hKA b3 b4 hz
      go_wp2_with fail
      refine HEX.out.mono ?_
      rintro e wB ⟨hkB, ⟨_, v', rfl, hoB⟩ | ⟨hne, _⟩⟩
      · rw [b2] at hoB
        have hc1 := conv_str wB v' xs (isB_own hoB)
        have hc2 := conv_str wB _ xs (HIA.out.kept hkB (fun _ _ f => f))
        rw [← HN.out] at hc2
        generalize str xs = sx at *
        have hss : (sx.toList == sx.toList) = true := by simp
        have HKB := hid_of (HKA.out.trans hkB)
        clear hoB hkB HEX b1 b2
        go_wp2
        go_ret
        exact ⟨rfl, HKB.out⟩
      · exact absurd b1 hne
    · rw [decL_nil hz] at hrA
      obtain ⟨xo, xc, hxv⟩ := hrA.shape
      have hxv' : xv = .slice xo 0 xc := hxv
      subst hxv'
      obtain ⟨dk, hdk⟩ : ∃ dk, dk = decK xs := ⟨_, rfl⟩
      rw [← hdk] at hz ⊢
      have hz1 : (dk != 0) = true := by simpa using hz
      have hz2 : (dk == 0) = false := by simpa using hz
      clear hz hdk hrA hkA hltA hKA hxv
      go_wp2
      go_ret
      exact ⟨rfl, HKA.out⟩
end Go.Proofs.YtcpkbajmilkhpaaDoor

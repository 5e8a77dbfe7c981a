/-
  ProgBack: the walk.
-/
import Derived.Test.YtnjhnlohjhdcpaaWc
import Derived.Test.YtnjhnlohjhdcpaaBp
namespace Go.Proofs.Ytnjhnlohjhdcpaa
open Go.ChangeShapes Go.WideShapes Go.ChangeAt Go.RowKit Go.Deep
set_option linter.unusedVariables false
set_option linter.unusedSimpArgs false
set_option maxRecDepth 100000

theorem encPE_cases (p : PG) : (encPE p = 0 ∧ checkP p = 0) ∨ (encPE p = 2 ∧ checkP p = 0) ∨ (encPE p = checkP p ∧ checkP p ≠ 0) := by
  unfold encPE
  by_cases h : checkP p = 0
  · rw [if_pos h]
    by_cases h2 : 1048576 < (bytesP p).length
    · rw [if_pos h2]; exact .inr (.inl ⟨rfl, h⟩)
    · rw [if_neg h2]; exact .inl ⟨rfl, h⟩
  · rw [if_neg h]; exact .inr (.inr ⟨rfl, h⟩)
set_option maxHeartbeats 16000000 in
theorem back_walk (u v : Value) (a b : PG) (w : World) (B : Nat) (ha : PgIs w B u a) (hb : PgIs w B v b) (hB : B ≤ w.heap.size) (hoa : a.Ok) (hob : b.Ok) : Calls Try.prog 7 #[u, v] w fun e w' => e = .returned (.bool true) ∧ Kept (fun _ => False) w w' := by
  have hag := ha
  obtain ⟨dva, fva, rfl, hda, hdla, hfa⟩ := ha
  obtain ⟨daa, dca, rfl⟩ := hda.shape
  obtain ⟨faa, fca, rfl⟩ := hfa.shape
  obtain ⟨nda, hnda⟩ : ∃ n, n = a.data.length := ⟨_, rfl⟩
  obtain ⟨nfa, hnfa⟩ : ∃ n, n = a.fns.length := ⟨_, rfl⟩
  obtain ⟨mea, hmea⟩ : ∃ m, m = a.mem := ⟨_, rfl⟩
  rw [← hmea, ← hnda, ← hnfa] at hag ⊢
  have hbg := hb
  obtain ⟨dvb, fvb, rfl, hdb, hdlb, hfb⟩ := hb
  obtain ⟨dab, dcb, rfl⟩ := hdb.shape
  obtain ⟨fab, fcb, rfl⟩ := hfb.shape
  obtain ⟨ndb, hndb⟩ : ∃ n, n = b.data.length := ⟨_, rfl⟩
  obtain ⟨nfb, hnfb⟩ : ∃ n, n = b.fns.length := ⟨_, rfl⟩
  obtain ⟨meb, hmeb⟩ : ∃ m, m = b.mem := ⟨_, rfl⟩
  rw [← hmeb, ← hndb, ← hnfb] at hbg ⊢
  have hkA : Kept (fun _ => False) w ((w.alloc (.cells #[.int .i64 mea, .slice daa nda dca, .slice faa nfa fca] 25)).alloc (.cells #[.int .i64 meb, .slice dab ndb dcb, .slice fab nfb fcb] 25)) := ((Kept.refl _ _).alloc _).alloc _
  have hbA : ((w.alloc (.cells #[.int .i64 mea, .slice daa nda dca, .slice faa nfa fca] 25)).alloc (.cells #[.int .i64 meb, .slice dab ndb dcb, .slice fab nfb fcb] 25)).heap[w.heap.size]? = some (.cells #[.int .i64 mea, .slice daa nda dca, .slice faa nfa fca] 25 (0, 0)) := by
    rw [heap_alloc_old _ _ (by simp)]
    exact heap_alloc_new w _
  have hbB := heap_alloc_new (w.alloc (.cells #[.int .i64 mea, .slice daa nda dca, .slice faa nfa fca] 25)) (.cells #[.int .i64 meb, .slice dab ndb dcb, .slice fab nfb fcb] 25)
  rw [show (w.alloc (.cells #[.int .i64 mea, .slice daa nda dca, .slice faa nfa fca] 25)).heap.size = w.heap.size + 1 by simp] at hbB
  have HGA := hid_of (hag.kept hkA (fun _ _ f => f))
  have HGB := hid_of (hbg.kept hkA (fun _ _ f => f))
  have HB0 := hid_of (Nat.le_trans hB hkA.size)
  have HOA := hid_of hoa
  have HOB := hid_of hob
  have HKA := hid_of hkA
  have HBA := hid_of hbA
  have HBB := hid_of hbB
  clear hag hbg hda hdla hfa hdb hdlb hfb hoa hob hnda hnfa hmea hndb hnfb hmeb hB hkA hbA hbB
  go_enter Try.func7, Try.ntmps7
  go_upto_region 1 with fail
  generalize ((w.alloc (.cells #[.int .i64 mea, .slice daa nda dca, .slice faa nfa fca] 25)).alloc (.cells #[.int .i64 meb, .slice dab ndb dcb, .slice fab nfb fcb] 25)) = w0 at *
  generalize w.heap.size + 1 = gb at *
  generalize w.heap.size = ga at *
  go_wp2_with fail
  refine (known_pos w0).mono ?_
  rintro e w1 ⟨rfl, hk1, hs1⟩
  have HGA1 := hid_of (HGA.out.kept hk1 (fun _ _ f => f))
  have HGB1 := hid_of (HGB.out.kept hk1 (fun _ _ f => f))
  have HBA1 := hid_of (box_kept hk1 HBA.out (fun f => f))
  have HBB1 := hid_of (box_kept hk1 HBB.out (fun f => f))
  have HK1 := hid_of (HKA.out.trans hk1)
  have HS1 := hid_of (Nat.le_trans HB0.out hk1.size)
  have HZ1 := hid_of hs1
  clear hk1 hs1 HGA HGB HBA HBB HKA HB0
  have a0 := cell_block _ ga 0 _ _ _ HBA1.out
  have a1 := cell_block _ ga 1 _ _ _ HBA1.out
  have a2 := cell_block _ ga 2 _ _ _ HBA1.out
  have HE1 := hid_of (encode_p _ a w1 B HGA1.out HS1.out HOA.out)
  go_wp2_with fail
  refine HE1.out.mono ?_
  rintro e w2 ⟨hk2, he2⟩
  have HGA2 := hid_of (HGA1.out.kept hk2 (fun _ _ f => f))
  have HGB2 := hid_of (HGB1.out.kept hk2 (fun _ _ f => f))
  have HBA2 := hid_of (box_kept hk2 HBA1.out (fun f => f))
  have HBB2 := hid_of (box_kept hk2 HBB1.out (fun f => f))
  have HK2 := hid_of (HK1.out.trans hk2)
  have HS2 := hid_of (Nat.le_trans HS1.out hk2.size)
  have HZ2 := hid_of (Nat.lt_of_lt_of_le HZ1.out hk2.size)
  clear hk2 HGA1 HGB1 HBA1 HBB1 HK1 HS1 HZ1 HE1 a0 a1 a2
  have HE2 := hid_of (encode_p _ b w2 B HGB2.out HS2.out HOB.out)
  have b0 := cell_block _ gb 0 _ _ _ HBB2.out
  have b1 := cell_block _ gb 1 _ _ _ HBB2.out
  have b2 := cell_block _ gb 2 _ _ _ HBB2.out
  -- what Check answers
  obtain ⟨ca, hca⟩ : ∃ c, c = checkP a := ⟨_, rfl⟩
  have HCK : Hid (∀ W, Kept (fun _ => False) w2 W → Calls Try.prog 11 #[.agg #[.int .i64 mea, .slice daa nda dca, .slice faa nfa fca]] W fun e w' => e = .returned (.int .i64 ca) ∧ Kept (fun _ => False) W w') := fun W hW => by
    rw [hca]
    exact check_p _ a W B (HGA2.out.kept hW (fun _ _ f => f)) (Nat.le_trans HS2.out hW.size) HOA.out
  rcases encPE_cases a with ⟨hea, hc0⟩ | ⟨hea, hc0⟩ | ⟨hea, hc0⟩
  · rw [if_pos hea] at he2
    obtain ⟨v2, rfl, ho2⟩ := he2
    obtain ⟨bx, cx, hv2⟩ := ownsRow_shape ho2
    have hle := (encPE_zero hea).2
    obtain ⟨nx, hnx⟩ : ∃ n, n = (bytesP a).length := ⟨_, rfl⟩
    rw [← hnx] at hv2 hle
    subst hv2
    have h0 : ca = 0 := by rw [hca]; exact hc0
    subst h0
    have HO2 := hid_of ho2
    have HEA := hid_of hea
    have HNX := hid_of hnx
    clear ho2 hea hc0 hca hnx
    go_wp2_with fail
    refine HE2.out.mono ?_
    rintro e w3 ⟨hk3, he3⟩
    have HK23 := hid_of hk3
    clear hk3 HE2 b0 b1 b2
    by_cases heb : encPE b = 0
    · rw [if_pos heb] at he3
      obtain ⟨v3, rfl, ho3⟩ := he3
      obtain ⟨byy, cy, hv3⟩ := ownsRow_shape ho3
      obtain ⟨ny, hny⟩ : ∃ n, n = (bytesP b).length := ⟨_, rfl⟩
      rw [← hny] at hv3
      subst hv3
      have HO3 := hid_of ho3
      have HEB := hid_of heb
      have HNY := hid_of hny
      clear ho3 heb hny
      have hbx := box_kept HK23.out HBA2.out (fun f => f)
      have a0 := cell_block _ ga 0 _ _ _ hbx
      have a1 := cell_block _ ga 1 _ _ _ hbx
      have a2 := cell_block _ ga 2 _ _ _ hbx
      have HCW := hid_of (HCK.out w3 HK23.out)
      clear hbx
      go_wp2_with fail
      refine HCW.out.mono ?_
      rintro e w4 ⟨rfl, hkn⟩
      have HK3t := hid_of hkn
      have HK24 := hid_of (HK23.out.trans hkn)
      clear hkn HCW a0 a1 a2
      have hbx := box_kept HK24.out HBA2.out (fun f => f)
      have a0 := cell_block _ ga 0 _ _ _ hbx
      have a1 := cell_block _ ga 1 _ _ _ hbx
      have a2 := cell_block _ ga 2 _ _ _ hbx
      have HCW := hid_of (HCK.out w4 HK24.out)
      clear hbx
      go_wp2_with fail
      refine HCW.out.mono ?_
      rintro e w5 ⟨rfl, hkn⟩
      have HK3t := hid_of (HK3t.out.trans hkn)
      have HK25 := hid_of (HK24.out.trans hkn)
      clear hkn HCW a0 a1 a2
      have ho5 := HK25.out.ownsRow HO2.out (fun _ _ f => f)
      obtain ⟨gdx, hgdx, hrix⟩ := isR_own2 ho5 (d := 0) (Nat.lt_of_lt_of_le HZ2.out HK25.out.size)
      have hdx := decode_p gdx bx cx (bytesP a) w5 (by rw [← HNX.out]; exact hrix) hgdx (bytesP_ok HOA.out (encPE_zero HEA.out).1 (by have := (encPE_zero HEA.out).2; omega))
      rw [← HNX.out] at hdx
      have HDX := hid_of hdx
      clear ho5 hgdx hrix hdx
      go_wp2_with fail
      refine HDX.out.mono ?_
      rintro e w6 ⟨hk6, he6⟩
      rw [right_decP HOA.out HEA.out] at he6
      obtain ⟨⟨dvp, fvp, cvs, rfl, hop⟩, _⟩ := he6
      obtain ⟨dap, dcp, hds⟩ := ownsRow_shape hop.dat
      obtain ⟨fap, fcp, hfs⟩ := ownsRow_shape hop.fns.row
      obtain ⟨ndp, hndp⟩ : ∃ n, n = a.data.length := ⟨_, rfl⟩
      obtain ⟨nfp, hnfp⟩ : ∃ n, n = a.fns.length := ⟨_, rfl⟩
      obtain ⟨mep, hmep⟩ : ∃ n, n = a.mem := ⟨_, rfl⟩
      rw [← hndp] at hds
      rw [← hnfp] at hfs
      rw [← hmep]
      subst hds
      subst hfs
      have hpg := hop.pg
      rw [← hmep] at hpg
      have hkP : Kept (fun _ => False) w6 (w6.alloc (.cells #[.int .i64 mep, .slice dap ndp dcp, .slice fap nfp fcp] 25)) := (Kept.refl _ _).alloc _
      have HBP := hid_of (heap_alloc_new w6 (.cells #[.int .i64 mep, .slice dap ndp dcp, .slice fap nfp fcp] 25))
      have HK2p := hid_of (HK25.out.trans (hk6.trans hkP))
      have HK3t := hid_of (HK3t.out.trans (hk6.trans hkP))
      have HGP := hid_of ((hpg.kept hkP (fun _ _ f => f)).up hkP.size)
      clear hk6 hop hndp hnfp hmep hpg hkP HDX
      go_upto_region 10 with fail
      generalize w6.alloc (.cells #[.int .i64 mep, .slice dap ndp dcp, .slice fap nfp fcp] 25) = w6b at *
      generalize w6.heap.size = gp at *
      have p0 := cell_block _ gp 0 _ _ _ HBP.out
      have p1 := cell_block _ gp 1 _ _ _ HBP.out
      have p2 := cell_block _ gp 2 _ _ _ HBP.out
      have hbx := box_kept HK2p.out HBA2.out (fun f => f)
      have a0 := cell_block _ ga 0 _ _ _ hbx
      have a1 := cell_block _ ga 1 _ _ _ hbx
      have a2 := cell_block _ ga 2 _ _ _ hbx
      have hsm := rsame_any _ _ a a w6b w6b.heap.size HGP.out ((HGA2.out.kept HK2p.out (fun _ _ f => f)).up (Nat.le_trans HS2.out HK2p.out.size)) (Nat.le_refl _) HOA.out HOA.out
      rw [sameP_refl] at hsm
      have HSM := hid_of hsm
      clear hsm hbx
      have hxI : ¬ ((1048576 : Int) < (nx : Int)) := by omega
      go_wp2_with fail
      refine HSM.out.mono ?_
      rintro e w7 ⟨rfl, hk7⟩
      have HK37 := hid_of (HK3t.out.trans hk7)
      have HK27 := hid_of (HK2p.out.trans hk7)
      clear hk7 HSM p0 p1 p2 a0 a1 a2
      go_upto_region 12 with fail
      have hbx := box_kept HK27.out HBA2.out (fun f => f)
      have hby := box_kept HK27.out HBB2.out (fun f => f)
      have HA0 := hid_of (show w7.cell? ⟨ga, 0, none⟩ = some (.int .i64 mea) from cell_block _ ga 0 _ _ _ hbx)
      have HB0 := hid_of (show w7.cell? ⟨gb, 0, none⟩ = some (.int .i64 meb) from cell_block _ gb 0 _ _ _ hby)
      have HA1 := hid_of (show w7.cell? ⟨ga, 1, none⟩ = some (.slice daa nda dca) from cell_block _ ga 1 _ _ _ hbx)
      have HB1 := hid_of (show w7.cell? ⟨gb, 1, none⟩ = some (.slice dab ndb dcb) from cell_block _ gb 1 _ _ _ hby)
      have HA2 := hid_of (show w7.cell? ⟨ga, 2, none⟩ = some (.slice faa nfa fca) from cell_block _ ga 2 _ _ _ hbx)
      have HB2 := hid_of (show w7.cell? ⟨gb, 2, none⟩ = some (.slice fab nfb fcb) from cell_block _ gb 2 _ _ _ hby)
      clear hbx hby
      have HC : Hid (∀ W, Kept (fun _ => False) w7 W → Calls Try.prog 19 #[.agg #[.int .i64 mea, .slice daa nda dca, .slice faa nfa fca], .agg #[.int .i64 meb, .slice dab ndb dcb, .slice fab nfb fcb]] W fun e w' => e = .returned (.bool (sameP a b)) ∧ Kept (fun _ => False) W w') := fun W hW => rsame_any _ _ a b W B (HGA2.out.kept (HK27.out.trans hW) (fun _ _ f => f)) (HGB2.out.kept (HK27.out.trans hW) (fun _ _ f => f)) (Nat.le_trans HS2.out (HK27.out.trans hW).size) HOA.out HOB.out
      have hsq := right_sameP HOA.out HOB.out HEA.out HEB.out
      obtain ⟨q, hq⟩ : ∃ q, q = sameP a b := ⟨_, rfl⟩
      rw [← hq] at hsq HC
      obtain ⟨sx, hsx⟩ : ∃ s, s = str (bytesP a) := ⟨_, rfl⟩
      obtain ⟨sy, hsy⟩ : ∃ s, s = str (bytesP b) := ⟨_, rfl⟩
      rw [← hsx, ← hsy] at hsq
      have HQ := hid_of hsq
      have HSHX := hid_of hsx
      have HSHY := hid_of hsy
      have HX0 := isB_own HO2.out
      have HX := hid_of (HX0.kept HK27.out (fun _ _ f => f))
      have HY0 := isB_own HO3.out
      have HY := hid_of (HY0.kept HK37.out (fun _ _ f => f))
      clear hsq hq hsx hsy HX0 HY0
      refine wp_region_held_drew (S := fun w' => Kept (fun _ => False) w7 w') (by kernel_rfl) (Kept.refl _ _).drew (fun hHeld => ?_)
      refine wpAnyH_take (i := 0) (v := ?_) rfl (by kernel_rfl) (by kernel_rfl) (by kernel_rfl) (fun _ _ _ h => h) (Or.inl ⟨by rfl, ?_⟩) (by assumption) ?_
      rotate_left 1
      · intro w hSw
        go_simp
        try with_reducible rfl
      try simp only [Act.put, List.getElem_toArray, List.getElem_cons_zero, List.getElem_cons_succ, List.setIfInBounds_toArray, List.set_cons_zero, List.set_cons_succ]
      refine wpAnyH_take (i := 1) (v := ?_) rfl (by kernel_rfl) (by kernel_rfl) (by kernel_rfl) (fun _ _ _ h => h) (Or.inl ⟨by rfl, ?_⟩) (by assumption) ?_
      rotate_left 1
      · intro w hSw
        go_simp
        try with_reducible rfl
      try simp only [Act.put, List.getElem_toArray, List.getElem_cons_zero, List.getElem_cons_succ, List.setIfInBounds_toArray, List.set_cons_zero, List.set_cons_succ]
      refine wpAnyH_take (i := 2) (v := ?_) rfl (by kernel_rfl) (by kernel_rfl) (by kernel_rfl) (fun _ _ _ h => h) (Or.inl ⟨by rfl, ?_⟩) (by assumption) ?_
      rotate_left 1
      · intro w hSw
        go_simp
        try with_reducible rfl
      try simp only [Act.put, List.getElem_toArray, List.getElem_cons_zero, List.getElem_cons_succ, List.setIfInBounds_toArray, List.set_cons_zero, List.set_cons_succ]
      refine wpAnyH_take (i := 3) (v := ?_) rfl (by kernel_rfl) (by kernel_rfl) (by kernel_rfl) (fun _ _ _ h => h) (Or.inl ⟨by rfl, ?_⟩) (by assumption) ?_
      rotate_left 1
      · intro w hSw
        go_simp
        try with_reducible rfl
      try simp only [Act.put, List.getElem_toArray, List.getElem_cons_zero, List.getElem_cons_succ, List.setIfInBounds_toArray, List.set_cons_zero, List.set_cons_succ]
      refine wpAnyH_take (i := 4) (v := ?_) rfl (by kernel_rfl) (by kernel_rfl) (by kernel_rfl) (fun _ _ _ h => h) (Or.inl ⟨by rfl, ?_⟩) (by assumption) ?_
      rotate_left 1
      · intro w hSw
        have qs := conv_str w _ _ (HX.out.kept hSw (fun _ _ f => f))
        rw [← HSHX.out] at qs
        go_simp
        try with_reducible rfl
      try simp only [Act.put, List.getElem_toArray, List.getElem_cons_zero, List.getElem_cons_succ, List.setIfInBounds_toArray, List.set_cons_zero, List.set_cons_succ]
      refine wpAnyH_take (i := 5) (v := ?_) rfl (by kernel_rfl) (by kernel_rfl) (by kernel_rfl) (fun _ _ _ h => h) (Or.inl ⟨by rfl, ?_⟩) (by assumption) ?_
      rotate_left 1
      · intro w hSw
        go_simp
        try with_reducible rfl
      try simp only [Act.put, List.getElem_toArray, List.getElem_cons_zero, List.getElem_cons_succ, List.setIfInBounds_toArray, List.set_cons_zero, List.set_cons_succ]
      refine wpAnyH_take (i := 6) (v := ?_) rfl (by kernel_rfl) (by kernel_rfl) (by kernel_rfl) (fun _ _ _ h => h) (Or.inl ⟨by rfl, ?_⟩) (by assumption) ?_
      rotate_left 1
      · intro w hSw
        have qs := conv_str w _ _ (HY.out.kept hSw (fun _ _ f => f))
        rw [← HSHY.out] at qs
        go_simp
        try with_reducible rfl
      try simp only [Act.put, List.getElem_toArray, List.getElem_cons_zero, List.getElem_cons_succ, List.setIfInBounds_toArray, List.set_cons_zero, List.set_cons_succ]
      refine wpAnyH_take (i := 7) (v := (.bool q)) rfl (by kernel_rfl) (by kernel_rfl) (by kernel_rfl) (fun _ _ _ h => h) (Or.inl ⟨by rfl, ?_⟩) (by assumption) ?_
      · intro w hSw
        go_simp
        rw [HQ.out]
      try simp only [Act.put, List.getElem_toArray, List.getElem_cons_zero, List.getElem_cons_succ, List.setIfInBounds_toArray, List.set_cons_zero, List.set_cons_succ]
      refine wpAnyH_take (i := 8) (v := ?_) rfl (by kernel_rfl) (by kernel_rfl) (by kernel_rfl) (fun _ _ _ h => h) (Or.inl ⟨by rfl, ?_⟩) (by assumption) ?_
      rotate_left 1
      · intro w hSw
        have q0 := Kept.cell hSw HA0.out (fun f => f)
        have q1 := Kept.cell hSw HA1.out (fun f => f)
        have q2 := Kept.cell hSw HA2.out (fun f => f)
        go_simp
        try with_reducible rfl
      try simp only [Act.put, List.getElem_toArray, List.getElem_cons_zero, List.getElem_cons_succ, List.setIfInBounds_toArray, List.set_cons_zero, List.set_cons_succ]
      refine wpAnyH_take (i := 9) (v := ?_) rfl (by kernel_rfl) (by kernel_rfl) (by kernel_rfl) (fun _ _ _ h => h) (Or.inl ⟨by rfl, ?_⟩) (by assumption) ?_
      rotate_left 1
      · intro w hSw
        have q0 := Kept.cell hSw HB0.out (fun f => f)
        have q1 := Kept.cell hSw HB1.out (fun f => f)
        have q2 := Kept.cell hSw HB2.out (fun f => f)
        go_simp
        try with_reducible rfl
      try simp only [Act.put, List.getElem_toArray, List.getElem_cons_zero, List.getElem_cons_succ, List.setIfInBounds_toArray, List.set_cons_zero, List.set_cons_succ]
      refine wpAnyH_ready (rs := [10]) (by kernel_rfl) (by simp) ?_
      refine AllReadyH.cons rfl (fun K hK => ?_) AllReadyH.nil
      go_simp
      refine (HC.out _ hHeld).mono ?_
      rintro e wn ⟨rfl, hkn⟩
      refine hK.out _ _ (Kept.trans hHeld hkn) (fun hHeld => ?_)
      clear hK K hkn
      try simp only [Act.put, List.getElem_toArray, List.getElem_cons_zero, List.getElem_cons_succ, List.setIfInBounds_toArray, List.set_cons_zero, List.set_cons_succ]
      refine wpAnyH_take (i := 11) (v := (.bool true)) rfl (by kernel_rfl) (by kernel_rfl) (by kernel_rfl) (fun _ _ _ h => h) (Or.inl ⟨by rfl, ?_⟩) (by assumption) ?_
      · intro w hSw
        go_simp
      try simp only [Act.put, List.getElem_toArray, List.getElem_cons_zero, List.getElem_cons_succ, List.setIfInBounds_toArray, List.set_cons_zero, List.set_cons_succ]
      refine wpAnyH_take (i := 12) (v := ?_) rfl (by kernel_rfl) (by kernel_rfl) (by kernel_rfl) (fun _ _ _ h => h) (Or.inl ⟨by rfl, ?_⟩) (by assumption) ?_
      rotate_left 1
      · intro w hSw
        go_simp
        try with_reducible rfl
      try simp only [Act.put, List.getElem_toArray, List.getElem_cons_zero, List.getElem_cons_succ, List.setIfInBounds_toArray, List.set_cons_zero, List.set_cons_succ]
      refine wpAnyH_take (i := 13) (v := ?_) rfl (by kernel_rfl) (by kernel_rfl) (by kernel_rfl) (fun _ _ _ h => h) (Or.inl ⟨by rfl, ?_⟩) (by assumption) ?_
      rotate_left 1
      · intro w hSw
        go_simp
        try with_reducible rfl
      try simp only [Act.put, List.getElem_toArray, List.getElem_cons_zero, List.getElem_cons_succ, List.setIfInBounds_toArray, List.set_cons_zero, List.set_cons_succ]
      refine wpAnyH_done (by kernel_rfl) ?_ _
      go_wp2
      go_ret
      exact ⟨rfl, (HK2.out.trans HK27.out).trans hHeld⟩
    · rw [if_neg heb] at he3
      subst he3
      obtain ⟨eb, heb'⟩ : ∃ e, e = encPE b := ⟨_, rfl⟩
      rw [← heb'] at heb ⊢
      have hb1 : (eb == 0) = false := by simp; exact heb
      have hb2 : (eb != 0) = true := by simp; exact heb
      clear heb heb'
      have hbx := box_kept HK23.out HBA2.out (fun f => f)
      have a0 := cell_block _ ga 0 _ _ _ hbx
      have a1 := cell_block _ ga 1 _ _ _ hbx
      have a2 := cell_block _ ga 2 _ _ _ hbx
      have HCW := hid_of (HCK.out w3 HK23.out)
      clear hbx
      go_wp2_with fail
      refine HCW.out.mono ?_
      rintro e w4 ⟨rfl, hkn⟩
      have HK24 := hid_of (HK23.out.trans hkn)
      clear hkn HCW a0 a1 a2
      have hbx := box_kept HK24.out HBA2.out (fun f => f)
      have a0 := cell_block _ ga 0 _ _ _ hbx
      have a1 := cell_block _ ga 1 _ _ _ hbx
      have a2 := cell_block _ ga 2 _ _ _ hbx
      have HCW := hid_of (HCK.out w4 HK24.out)
      clear hbx
      go_wp2_with fail
      refine HCW.out.mono ?_
      rintro e w5 ⟨rfl, hkn⟩
      have HK25 := hid_of (HK24.out.trans hkn)
      clear hkn HCW a0 a1 a2
      have ho5 := HK25.out.ownsRow HO2.out (fun _ _ f => f)
      obtain ⟨gdx, hgdx, hrix⟩ := isR_own2 ho5 (d := 0) (Nat.lt_of_lt_of_le HZ2.out HK25.out.size)
      have hdx := decode_p gdx bx cx (bytesP a) w5 (by rw [← HNX.out]; exact hrix) hgdx (bytesP_ok HOA.out (encPE_zero HEA.out).1 (by have := (encPE_zero HEA.out).2; omega))
      rw [← HNX.out] at hdx
      have HDX := hid_of hdx
      clear ho5 hgdx hrix hdx
      go_wp2_with fail
      refine HDX.out.mono ?_
      rintro e w6 ⟨hk6, he6⟩
      rw [right_decP HOA.out HEA.out] at he6
      obtain ⟨⟨dvp, fvp, cvs, rfl, hop⟩, _⟩ := he6
      obtain ⟨dap, dcp, hds⟩ := ownsRow_shape hop.dat
      obtain ⟨fap, fcp, hfs⟩ := ownsRow_shape hop.fns.row
      obtain ⟨ndp, hndp⟩ : ∃ n, n = a.data.length := ⟨_, rfl⟩
      obtain ⟨nfp, hnfp⟩ : ∃ n, n = a.fns.length := ⟨_, rfl⟩
      obtain ⟨mep, hmep⟩ : ∃ n, n = a.mem := ⟨_, rfl⟩
      rw [← hndp] at hds
      rw [← hnfp] at hfs
      rw [← hmep]
      subst hds
      subst hfs
      have hpg := hop.pg
      rw [← hmep] at hpg
      have hkP : Kept (fun _ => False) w6 (w6.alloc (.cells #[.int .i64 mep, .slice dap ndp dcp, .slice fap nfp fcp] 25)) := (Kept.refl _ _).alloc _
      have HBP := hid_of (heap_alloc_new w6 (.cells #[.int .i64 mep, .slice dap ndp dcp, .slice fap nfp fcp] 25))
      have HK2p := hid_of (HK25.out.trans (hk6.trans hkP))
      have HGP := hid_of ((hpg.kept hkP (fun _ _ f => f)).up hkP.size)
      clear hk6 hop hndp hnfp hmep hpg hkP HDX
      go_upto_region 10 with fail
      generalize w6.alloc (.cells #[.int .i64 mep, .slice dap ndp dcp, .slice fap nfp fcp] 25) = w6b at *
      generalize w6.heap.size = gp at *
      have p0 := cell_block _ gp 0 _ _ _ HBP.out
      have p1 := cell_block _ gp 1 _ _ _ HBP.out
      have p2 := cell_block _ gp 2 _ _ _ HBP.out
      have hbx := box_kept HK2p.out HBA2.out (fun f => f)
      have a0 := cell_block _ ga 0 _ _ _ hbx
      have a1 := cell_block _ ga 1 _ _ _ hbx
      have a2 := cell_block _ ga 2 _ _ _ hbx
      have hsm := rsame_any _ _ a a w6b w6b.heap.size HGP.out ((HGA2.out.kept HK2p.out (fun _ _ f => f)).up (Nat.le_trans HS2.out HK2p.out.size)) (Nat.le_refl _) HOA.out HOA.out
      rw [sameP_refl] at hsm
      have HSM := hid_of hsm
      clear hsm hbx
      have hxI : ¬ ((1048576 : Int) < (nx : Int)) := by omega
      go_wp2_with fail
      refine HSM.out.mono ?_
      rintro e w7 ⟨rfl, hk7⟩
      have HK27 := hid_of (HK2p.out.trans hk7)
      clear hk7 HSM p0 p1 p2 a0 a1 a2
      go_upto_region 12 with fail
      have hbx := box_kept HK27.out HBA2.out (fun f => f)
      have hby := box_kept HK27.out HBB2.out (fun f => f)
      have HA0 := hid_of (show w7.cell? ⟨ga, 0, none⟩ = some (.int .i64 mea) from cell_block _ ga 0 _ _ _ hbx)
      have HB0 := hid_of (show w7.cell? ⟨gb, 0, none⟩ = some (.int .i64 meb) from cell_block _ gb 0 _ _ _ hby)
      have HA1 := hid_of (show w7.cell? ⟨ga, 1, none⟩ = some (.slice daa nda dca) from cell_block _ ga 1 _ _ _ hbx)
      have HB1 := hid_of (show w7.cell? ⟨gb, 1, none⟩ = some (.slice dab ndb dcb) from cell_block _ gb 1 _ _ _ hby)
      have HA2 := hid_of (show w7.cell? ⟨ga, 2, none⟩ = some (.slice faa nfa fca) from cell_block _ ga 2 _ _ _ hbx)
      have HB2 := hid_of (show w7.cell? ⟨gb, 2, none⟩ = some (.slice fab nfb fcb) from cell_block _ gb 2 _ _ _ hby)
      clear hbx hby
      refine wp_region_held_drew (S := fun w' => Kept (fun _ => False) w7 w') (by kernel_rfl) (Kept.refl _ _).drew (fun hHeld => ?_)
      refine wpAnyH_take (i := 0) (v := ?_) rfl (by kernel_rfl) (by kernel_rfl) (by kernel_rfl) (fun _ _ _ h => h) (Or.inl ⟨by rfl, ?_⟩) (by assumption) ?_
      rotate_left 1
      · intro w hSw
        go_simp
        try with_reducible rfl
      try simp only [Act.put, List.getElem_toArray, List.getElem_cons_zero, List.getElem_cons_succ, List.setIfInBounds_toArray, List.set_cons_zero, List.set_cons_succ]
      refine wpAnyH_take (i := 1) (v := ?_) rfl (by kernel_rfl) (by kernel_rfl) (by kernel_rfl) (fun _ _ _ h => h) (Or.inl ⟨by rfl, ?_⟩) (by assumption) ?_
      rotate_left 1
      · intro w hSw
        go_simp
        try with_reducible rfl
      try simp only [Act.put, List.getElem_toArray, List.getElem_cons_zero, List.getElem_cons_succ, List.setIfInBounds_toArray, List.set_cons_zero, List.set_cons_succ]
      refine wpAnyH_take (i := 2) (v := ?_) rfl (by kernel_rfl) (by kernel_rfl) (by kernel_rfl) (fun _ _ _ h => h) (Or.inl ⟨by rfl, ?_⟩) (by assumption) ?_
      rotate_left 1
      · intro w hSw
        go_simp
        try with_reducible rfl
      try simp only [Act.put, List.getElem_toArray, List.getElem_cons_zero, List.getElem_cons_succ, List.setIfInBounds_toArray, List.set_cons_zero, List.set_cons_succ]
      refine wpAnyH_take (i := 3) (v := undef) rfl (by kernel_rfl) (by kernel_rfl) (by kernel_rfl) (fun _ _ _ h => h) (Or.inr ⟨by rfl, rfl⟩) (by assumption) ?_
      try simp only [Act.put, List.getElem_toArray, List.getElem_cons_zero, List.getElem_cons_succ, List.setIfInBounds_toArray, List.set_cons_zero, List.set_cons_succ]
      refine wpAnyH_take (i := 4) (v := undef) rfl (by kernel_rfl) (by kernel_rfl) (by kernel_rfl) (fun _ _ _ h => h) (Or.inr ⟨by rfl, rfl⟩) (by assumption) ?_
      try simp only [Act.put, List.getElem_toArray, List.getElem_cons_zero, List.getElem_cons_succ, List.setIfInBounds_toArray, List.set_cons_zero, List.set_cons_succ]
      refine wpAnyH_take (i := 5) (v := undef) rfl (by kernel_rfl) (by kernel_rfl) (by kernel_rfl) (fun _ _ _ h => h) (Or.inr ⟨by rfl, rfl⟩) (by assumption) ?_
      try simp only [Act.put, List.getElem_toArray, List.getElem_cons_zero, List.getElem_cons_succ, List.setIfInBounds_toArray, List.set_cons_zero, List.set_cons_succ]
      refine wpAnyH_take (i := 6) (v := undef) rfl (by kernel_rfl) (by kernel_rfl) (by kernel_rfl) (fun _ _ _ h => h) (Or.inr ⟨by rfl, rfl⟩) (by assumption) ?_
      try simp only [Act.put, List.getElem_toArray, List.getElem_cons_zero, List.getElem_cons_succ, List.setIfInBounds_toArray, List.set_cons_zero, List.set_cons_succ]
      refine wpAnyH_take (i := 7) (v := undef) rfl (by kernel_rfl) (by kernel_rfl) (by kernel_rfl) (fun _ _ _ h => h) (Or.inr ⟨by rfl, rfl⟩) (by assumption) ?_
      try simp only [Act.put, List.getElem_toArray, List.getElem_cons_zero, List.getElem_cons_succ, List.setIfInBounds_toArray, List.set_cons_zero, List.set_cons_succ]
      refine wpAnyH_take (i := 8) (v := undef) rfl (by kernel_rfl) (by kernel_rfl) (by kernel_rfl) (fun _ _ _ h => h) (Or.inr ⟨by rfl, rfl⟩) (by assumption) ?_
      try simp only [Act.put, List.getElem_toArray, List.getElem_cons_zero, List.getElem_cons_succ, List.setIfInBounds_toArray, List.set_cons_zero, List.set_cons_succ]
      refine wpAnyH_take (i := 9) (v := undef) rfl (by kernel_rfl) (by kernel_rfl) (by kernel_rfl) (fun _ _ _ h => h) (Or.inr ⟨by rfl, rfl⟩) (by assumption) ?_
      try simp only [Act.put, List.getElem_toArray, List.getElem_cons_zero, List.getElem_cons_succ, List.setIfInBounds_toArray, List.set_cons_zero, List.set_cons_succ]
      refine wpAnyH_take (i := 10) (v := undef) rfl (by kernel_rfl) (by kernel_rfl) (by kernel_rfl) (fun _ _ _ h => h) (Or.inr ⟨by rfl, rfl⟩) (by assumption) ?_
      try simp only [Act.put, List.getElem_toArray, List.getElem_cons_zero, List.getElem_cons_succ, List.setIfInBounds_toArray, List.set_cons_zero, List.set_cons_succ]
      refine wpAnyH_take (i := 11) (v := undef) rfl (by kernel_rfl) (by kernel_rfl) (by kernel_rfl) (fun _ _ _ h => h) (Or.inr ⟨by rfl, rfl⟩) (by assumption) ?_
      try simp only [Act.put, List.getElem_toArray, List.getElem_cons_zero, List.getElem_cons_succ, List.setIfInBounds_toArray, List.set_cons_zero, List.set_cons_succ]
      refine wpAnyH_take (i := 12) (v := ?_) rfl (by kernel_rfl) (by kernel_rfl) (by kernel_rfl) (fun _ _ _ h => h) (Or.inl ⟨by rfl, ?_⟩) (by assumption) ?_
      rotate_left 1
      · intro w hSw
        go_simp
        try with_reducible rfl
      try simp only [Act.put, List.getElem_toArray, List.getElem_cons_zero, List.getElem_cons_succ, List.setIfInBounds_toArray, List.set_cons_zero, List.set_cons_succ]
      refine wpAnyH_take (i := 13) (v := ?_) rfl (by kernel_rfl) (by kernel_rfl) (by kernel_rfl) (fun _ _ _ h => h) (Or.inl ⟨by rfl, ?_⟩) (by assumption) ?_
      rotate_left 1
      · intro w hSw
        go_simp
        try with_reducible rfl
      try simp only [Act.put, List.getElem_toArray, List.getElem_cons_zero, List.getElem_cons_succ, List.setIfInBounds_toArray, List.set_cons_zero, List.set_cons_succ]
      refine wpAnyH_done (by kernel_rfl) ?_ _
      go_wp2
      go_ret
      exact ⟨rfl, (HK2.out.trans HK27.out).trans hHeld⟩
  · rw [if_neg (by rw [hea]; decide), hea] at he2
    subst he2
    have h0 : ca = 0 := by rw [hca]; exact hc0
    subst h0
    clear hea hc0 hca
    go_wp2_with fail
    refine HE2.out.mono ?_
    rintro e w3 ⟨hk3, he3⟩
    have HK23 := hid_of hk3
    clear hk3 HE2 b0 b1 b2
    by_cases heb : encPE b = 0
    · rw [if_pos heb] at he3
      obtain ⟨v3, rfl, ho3⟩ := he3
      obtain ⟨byy, cy, hv3⟩ := ownsRow_shape ho3
      obtain ⟨ny, hny⟩ : ∃ n, n = (bytesP b).length := ⟨_, rfl⟩
      rw [← hny] at hv3
      subst hv3
      clear ho3 heb hny
      have hbx := box_kept HK23.out HBA2.out (fun f => f)
      have a0 := cell_block _ ga 0 _ _ _ hbx
      have a1 := cell_block _ ga 1 _ _ _ hbx
      have a2 := cell_block _ ga 2 _ _ _ hbx
      have HCW := hid_of (HCK.out w3 HK23.out)
      clear hbx
      go_wp2_with fail
      refine HCW.out.mono ?_
      rintro e w4 ⟨rfl, hkn⟩
      have HK24 := hid_of (HK23.out.trans hkn)
      clear hkn HCW a0 a1 a2
      have hbx := box_kept HK24.out HBA2.out (fun f => f)
      have a0 := cell_block _ ga 0 _ _ _ hbx
      have a1 := cell_block _ ga 1 _ _ _ hbx
      have a2 := cell_block _ ga 2 _ _ _ hbx
      have HCW := hid_of (HCK.out w4 HK24.out)
      clear hbx
      go_wp2_with fail
      refine HCW.out.mono ?_
      rintro e w5 ⟨rfl, hkn⟩
      have HK25 := hid_of (HK24.out.trans hkn)
      clear hkn HCW a0 a1 a2
      have HKF := hid_of (HK2.out.trans HK25.out)
      go_wp2
      go_ret
      exact ⟨rfl, HKF.out⟩
    · rw [if_neg heb] at he3
      subst he3
      obtain ⟨eb, heb'⟩ : ∃ e, e = encPE b := ⟨_, rfl⟩
      rw [← heb'] at heb ⊢
      have hb1 : (eb == 0) = false := by simp; exact heb
      have hb2 : (eb != 0) = true := by simp; exact heb
      clear heb heb'
      have hbx := box_kept HK23.out HBA2.out (fun f => f)
      have a0 := cell_block _ ga 0 _ _ _ hbx
      have a1 := cell_block _ ga 1 _ _ _ hbx
      have a2 := cell_block _ ga 2 _ _ _ hbx
      have HCW := hid_of (HCK.out w3 HK23.out)
      clear hbx
      go_wp2_with fail
      refine HCW.out.mono ?_
      rintro e w4 ⟨rfl, hkn⟩
      have HK24 := hid_of (HK23.out.trans hkn)
      clear hkn HCW a0 a1 a2
      have hbx := box_kept HK24.out HBA2.out (fun f => f)
      have a0 := cell_block _ ga 0 _ _ _ hbx
      have a1 := cell_block _ ga 1 _ _ _ hbx
      have a2 := cell_block _ ga 2 _ _ _ hbx
      have HCW := hid_of (HCK.out w4 HK24.out)
      clear hbx
      go_wp2_with fail
      refine HCW.out.mono ?_
      rintro e w5 ⟨rfl, hkn⟩
      have HK25 := hid_of (HK24.out.trans hkn)
      clear hkn HCW a0 a1 a2
      have HKF := hid_of (HK2.out.trans HK25.out)
      go_wp2
      go_ret
      exact ⟨rfl, HKF.out⟩
  · rw [if_neg (by rw [hea]; exact hc0), hea, ← hca] at he2
    subst he2
    rw [← hca] at hc0
    have hc1 : (ca == 0) = false := by simp; exact hc0
    have hc2 : (ca != 0) = true := by simp; exact hc0
    clear hea hc0 hca
    go_wp2_with fail
    refine HE2.out.mono ?_
    rintro e w3 ⟨hk3, he3⟩
    have HK23 := hid_of hk3
    clear hk3 HE2 b0 b1 b2
    by_cases heb : encPE b = 0
    · rw [if_pos heb] at he3
      obtain ⟨v3, rfl, ho3⟩ := he3
      obtain ⟨byy, cy, hv3⟩ := ownsRow_shape ho3
      obtain ⟨ny, hny⟩ : ∃ n, n = (bytesP b).length := ⟨_, rfl⟩
      rw [← hny] at hv3
      subst hv3
      clear ho3 heb hny
      have hbx := box_kept HK23.out HBA2.out (fun f => f)
      have a0 := cell_block _ ga 0 _ _ _ hbx
      have a1 := cell_block _ ga 1 _ _ _ hbx
      have a2 := cell_block _ ga 2 _ _ _ hbx
      have HCW := hid_of (HCK.out w3 HK23.out)
      clear hbx
      go_wp2_with fail
      refine HCW.out.mono ?_
      rintro e w4 ⟨rfl, hkn⟩
      have HK24 := hid_of (HK23.out.trans hkn)
      clear hkn HCW a0 a1 a2
      have hbx := box_kept HK24.out HBA2.out (fun f => f)
      have a0 := cell_block _ ga 0 _ _ _ hbx
      have a1 := cell_block _ ga 1 _ _ _ hbx
      have a2 := cell_block _ ga 2 _ _ _ hbx
      have HCW := hid_of (HCK.out w4 HK24.out)
      clear hbx
      go_wp2_with fail
      refine HCW.out.mono ?_
      rintro e w5 ⟨rfl, hkn⟩
      have HK25 := hid_of (HK24.out.trans hkn)
      clear hkn HCW a0 a1 a2
      have hbx := box_kept HK25.out HBA2.out (fun f => f)
      have a0 := cell_block _ ga 0 _ _ _ hbx
      have a1 := cell_block _ ga 1 _ _ _ hbx
      have a2 := cell_block _ ga 2 _ _ _ hbx
      have HCW := hid_of (HCK.out w5 HK25.out)
      clear hbx
      go_wp2_with fail
      refine HCW.out.mono ?_
      rintro e w6 ⟨rfl, hkn⟩
      have HK26 := hid_of (HK25.out.trans hkn)
      clear hkn HCW a0 a1 a2
      have HKF := hid_of (HK2.out.trans HK26.out)
      go_wp2
      go_ret
      exact ⟨rfl, HKF.out⟩
    · rw [if_neg heb] at he3
      subst he3
      obtain ⟨eb, heb'⟩ : ∃ e, e = encPE b := ⟨_, rfl⟩
      rw [← heb'] at heb ⊢
      have hb1 : (eb == 0) = false := by simp; exact heb
      have hb2 : (eb != 0) = true := by simp; exact heb
      clear heb heb'
      have hbx := box_kept HK23.out HBA2.out (fun f => f)
      have a0 := cell_block _ ga 0 _ _ _ hbx
      have a1 := cell_block _ ga 1 _ _ _ hbx
      have a2 := cell_block _ ga 2 _ _ _ hbx
      have HCW := hid_of (HCK.out w3 HK23.out)
      clear hbx
      go_wp2_with fail
      refine HCW.out.mono ?_
      rintro e w4 ⟨rfl, hkn⟩
      have HK24 := hid_of (HK23.out.trans hkn)
      clear hkn HCW a0 a1 a2
      have hbx := box_kept HK24.out HBA2.out (fun f => f)
      have a0 := cell_block _ ga 0 _ _ _ hbx
      have a1 := cell_block _ ga 1 _ _ _ hbx
      have a2 := cell_block _ ga 2 _ _ _ hbx
      have HCW := hid_of (HCK.out w4 HK24.out)
      clear hbx
      go_wp2_with fail
      refine HCW.out.mono ?_
      rintro e w5 ⟨rfl, hkn⟩
      have HK25 := hid_of (HK24.out.trans hkn)
      clear hkn HCW a0 a1 a2
      have hbx := box_kept HK25.out HBA2.out (fun f => f)
      have a0 := cell_block _ ga 0 _ _ _ hbx
      have a1 := cell_block _ ga 1 _ _ _ hbx
      have a2 := cell_block _ ga 2 _ _ _ hbx
      have HCW := hid_of (HCK.out w5 HK25.out)
      clear hbx
      go_wp2_with fail
      refine HCW.out.mono ?_
      rintro e w6 ⟨rfl, hkn⟩
      have HK26 := hid_of (HK25.out.trans hkn)
      clear hkn HCW a0 a1 a2
      have HKF := hid_of (HK2.out.trans HK26.out)
      go_wp2
      go_ret
      exact ⟨rfl, HKF.out⟩
end Go.Proofs.Ytnjhnlohjhdcpaa

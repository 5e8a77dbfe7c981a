import Derived.Test.YtcahibbfejomcaaGreatDoorTTx51
namespace Go.Proofs.YtcahibbfejomcaaGreatDoor
open Go.RowKit
set_option linter.unusedVariables false
set_option linter.unusedSimpArgs false
set_option maxRecDepth 100000
set_option maxHeartbeats 32000000 in
theorem text_walk (vp vq : Value) (p q : PG) (w : World) (hG : Gs w) (hL : Laid w) (hp : PgIs w w.heap.size vp p) (hq : PgIs w w.heap.size vq q) (op : p.Ok) (oq : q.Ok) :
  Calls Tryz.prog 3 #[vp, vq] w fun e w' => e = .returned (.bool true) ∧ Kept (fun _ => False) w w' := by
 obtain ⟨pm, pda, pdn, pdc, pfa, pfn, pfc, rfl⟩ := pg_shapeK hp
 obtain ⟨qm, qda, qdn, qdc, qfa, qfn, qfc, rfl⟩ := pg_shapeK hq
 obtain ⟨W1, hW1⟩ := nmd ((w.alloc (.cells #[.int .i64 pm, .slice pda pdn pdc, .slice pfa pfn pfc] 25)).alloc (.cells #[.int .i64 qm, .slice qda qdn qdc, .slice qfa qfn qfc] 25))
 obtain ⟨k1, x1, x2⟩ := allocs2 _ _ _ _ _ _ hW1
 have HKN := hid_of (knownText_any W1 (hG.same k1))
 have HB1 := hid_of (TtI.mk x1 x2 (hp.kept k1 (fun _ _ f => f)) (hq.kept k1 (fun _ _ f => f)) k1 k1.size)
 have HG := hid_of hG
 have HL := hid_of hL
 have HOP := hid_of op
 have HOQ := hid_of oq
 clear k1 x1 x2 hp hq hG hL op oq
 go_enter Tryz.func3, Tryz.ntmps3
 go_upto_region 1 with fail
 rw [← hW1]
 clear hW1
 generalize w.heap.size + 1 = gq at *
 generalize w.heap.size = gp at *
 go_wp2_with fail
 refine HKN.out.mono ?_
 rintro e w2 ⟨rfl, hk2⟩
 have HB2 := hid_of (HB1.out.step hk2)
 clear hk2 HKN HB1
 obtain ⟨pe, hpe⟩ := nmd (encPE p)
 have hen := encode_a _ p w2 _ HB2.out.p1 HB2.out.lo HOP.out
 have HEN := hid_of hen
 have HPE := hid_of hpe
 clear hen hpe
 obtain ⟨a0, a1, a2, _⟩ := look3 HB2.out.x1
 go_wp2_with fail
 refine HEN.out.mono ?_
 rintro e w3 ⟨hk3, ba, bn, bc, rfl, hb⟩
 have HB3 := hid_of (HB2.out.step hk3)
 have HBB := hid_of hb
 rw [← HPE.out]
 clear hk3 HEN HB2 a0 a1 a2 hb
 obtain ⟨qe, hqe⟩ := nmd (encPE q)
 have hen := encode_a _ q w3 _ HB3.out.p2 HB3.out.lo HOQ.out
 have HEN := hid_of hen
 have HQE := hid_of hqe
 clear hen hqe
 obtain ⟨a0, a1, a2, _⟩ := look3 HB3.out.x2
 go_wp2_with fail
 refine HEN.out.mono ?_
 rintro e w4 ⟨hk4, ca, cn, cc, rfl, hb⟩
 have HB := hid_of (HB3.out.step hk4)
 have HCB := hid_of hb
 rw [← HQE.out]
 have HBC := hid_of (HBB.out.kept hk4 (fun _ _ f => f))
 clear hk4 HEN HB3 a0 a1 a2 hb HBB
 go_upto_region 5 with fail
 have HHP : Hid (∀ w', Kept (fun _ => False) w4 w' → w'.cell? ⟨gp, 0, none⟩ = some (.int .i64 pm) ∧ w'.cell? ⟨gp, 1, none⟩ = some (.slice pda pdn pdc) ∧ w'.cell? ⟨gp, 2, none⟩ = some (.slice pfa pfn pfc) ∧ w'.cell? ⟨gq, 0, none⟩ = some (.int .i64 qm) ∧ w'.cell? ⟨gq, 1, none⟩ = some (.slice qda qdn qdc) ∧ w'.cell? ⟨gq, 2, none⟩ = some (.slice qfa qfn qfc)) := fun w' hw => by
  obtain ⟨a0, a1, a2, _⟩ := look3 (box_kept hw HB.out.x1 id)
  obtain ⟨b0, b1, b2, _⟩ := look3 (box_kept hw HB.out.x2 id)
  exact ⟨a0, a1, a2, b0, b1, b2⟩
 obtain ⟨sb, hsb⟩ := nmd (str (encV p))
 obtain ⟨sc, hsc⟩ := nmd (str (encV q))
 have HV1 : Hid (∀ W, Kept (fun _ => False) w4 W → (convert 22 9 (.slice ba bn bc)).run Tryz.prog W = .ok (.string sb) W) := fun W hW => by rw [hsb]; exact conv_str W _ _ (bin_isB (HBC.out.kept hW (fun _ _ f => f)))
 have HV2 : Hid (∀ W, Kept (fun _ => False) w4 W → (convert 22 9 (.slice ca cn cc)).run Tryz.prog W = .ok (.string sc) W) := fun W hW => by rw [hsc]; exact conv_str W _ _ (bin_isB (HCB.out.kept hW (fun _ _ f => f)))
 have HSA : Hid (∀ W, Kept (fun _ => False) w4 W → Calls Tryz.prog 6 #[.agg #[.int .i64 pm, .slice pda pdn pdc, .slice pfa pfn pfc], .agg #[.int .i64 qm, .slice qda qdn qdc, .slice qfa qfn qfc]] W fun e w' => e = .returned (.bool (sameP p q)) ∧ Kept (fun _ => False) W w') := fun W hW =>
  same_p _ _ p q W gp (HB.out.p1.kept hW (fun _ _ f => f)) (HB.out.p2.kept hW (fun _ _ f => f)) (Nat.le_trans HB.out.lo hW.size) HOP.out HOQ.out
 have HSE : Hid (pe = 0 → qe = 0 → sameP p q = (sb.toList == sc.toList)) := fun h1 h2 => by
  rw [hsb, hsc]
  exact (encV_same HOP.out HOQ.out (HPE.out.symm.trans h1) (HQE.out.symm.trans h2)).symm
 have HEQ : Hid ((sb.toList == sc.toList) = true → encV p = encV q) := fun h => by
  rw [hsb, hsc, encV_str HOP.out HOQ.out] at h
  exact of_decide_eq_true h
 have HL4 : Hid (∀ W, Kept (fun _ => False) w4 W → Laid W) := fun W hW => laid_same HL.out (HB.out.k.trans hW)
 have HF1 : Hid (∀ W, Kept (fun _ => False) w4 W → Calls Tryz.prog 7 #[.slice (some ⟨W.heap.size, 0, none⟩) 1 1] (W.alloc (.cells #[.slice ba bn bc] 22)) fun e w' => e = .returned (.agg ((sha (encV p)).map (Value.int .u8)).toArray) ∧ Kept (fun _ => False) W w') := fun W hW =>
  of_one W _ p HOP.out (HBC.out.kept hW (fun _ _ f => f)) (HL4.out W hW)
 have HR1 : Hid (∀ W g, Kept (fun _ => False) w4 W → W.heap[g]? = some (.cells #[.slice ba bn bc] 22 (0, 0)) → Calls Tryz.prog 7 #[.slice (some ⟨g, 0, none⟩) 1 1] W fun e w' => e = .returned (.agg ((sha (encV p)).map (Value.int .u8)).toArray) ∧ Kept (fun _ => False) W w') := fun W g hW hr =>
  of_row W g _ p HOP.out hr (HBC.out.kept hW (fun _ _ f => f)) (HL4.out W hW)
 have HR2 : Hid (∀ W g, Kept (fun _ => False) w4 W → W.heap[g]? = some (.cells #[.slice ca cn cc] 22 (0, 0)) → Calls Tryz.prog 7 #[.slice (some ⟨g, 0, none⟩) 1 1] W fun e w' => e = .returned (.agg ((sha (encV q)).map (Value.int .u8)).toArray) ∧ Kept (fun _ => False) W w') := fun W g hW hr =>
  of_row W g _ q HOQ.out hr (HCB.out.kept hW (fun _ _ f => f)) (HL4.out W hW)
 clear hsb hsc HF1
 obtain ⟨sm, hsm⟩ := nmd (sameP p q)
 rw [← hsm] at HSA HSE
 have HSMP := hid_of hsm
 clear hsm
 go_cut [63] from 19 to 126 (fun v63 wx => v63 = .bool false ∧ Hid (Kept (fun _ => False) w4 wx))
 case first =>
  as_aux_lemma =>
   cases hqq : (sb.toList == sc.toList)
   ·have HNE : Hid (∀ w : World, True) := fun _ => trivial
    clear HEQ
    by_cases hp0 : pe = 0
    ·subst hp0
     by_cases hq0 : qe = 0
     ·subst hq0
      obtain rfl := (HSE.out rfl rfl).trans hqq
      clear HSE
      refine wp_region_held_drew (S := fun w' => Kept (fun _ => False) w4 w') (by kernel_rfl) ((Kept.refl _ _).drew) (fun hHeld => ?_)
      generalize w4.drew = wd at *
      refine tkn (v := ?_) 0 rfl ?_ ?_; rotate_left 1
      ·intro w hSw; obtain ⟨s0, s1, s2, s3, s4, s5⟩ := HHP.out w hSw; have c1 := HV1.out w hSw; have c2 := HV2.out w hSw; have n1 := HNE.out w; go_simp; try with_reducible rfl
      try simp only [Act.put, tdy]
      refine tkn (v := ?_) 1 rfl ?_ ?_; rotate_left 1
      ·intro w hSw; obtain ⟨s0, s1, s2, s3, s4, s5⟩ := HHP.out w hSw; have c1 := HV1.out w hSw; have c2 := HV2.out w hSw; have n1 := HNE.out w; go_simp; try with_reducible rfl
      try simp only [Act.put, tdy]
      refine tkn (v := ?_) 2 rfl ?_ ?_; rotate_left 1
      ·intro w hSw; obtain ⟨s0, s1, s2, s3, s4, s5⟩ := HHP.out w hSw; have c1 := HV1.out w hSw; have c2 := HV2.out w hSw; have n1 := HNE.out w; go_simp; try with_reducible rfl
      try simp only [Act.put, tdy]
      refine tkn (v := ?_) 3 rfl ?_ ?_; rotate_left 1
      ·intro w hSw; obtain ⟨s0, s1, s2, s3, s4, s5⟩ := HHP.out w hSw; have c1 := HV1.out w hSw; have c2 := HV2.out w hSw; have n1 := HNE.out w; go_simp; try with_reducible rfl
      try simp only [Act.put, tdy]
      refine tkn (v := ?_) 4 rfl ?_ ?_; rotate_left 1
      ·intro w hSw; obtain ⟨s0, s1, s2, s3, s4, s5⟩ := HHP.out w hSw; have c1 := HV1.out w hSw; have c2 := HV2.out w hSw; have n1 := HNE.out w; go_simp; try with_reducible rfl
      try simp only [Act.put, tdy]
      refine tkn (v := ?_) 5 rfl ?_ ?_; rotate_left 1
      ·intro w hSw; obtain ⟨s0, s1, s2, s3, s4, s5⟩ := HHP.out w hSw; have c1 := HV1.out w hSw; have c2 := HV2.out w hSw; have n1 := HNE.out w; go_simp; try with_reducible rfl
      try simp only [Act.put, tdy]
      refine tkn (v := ?_) 6 rfl ?_ ?_; rotate_left 1
      ·intro w hSw; obtain ⟨s0, s1, s2, s3, s4, s5⟩ := HHP.out w hSw; have c1 := HV1.out w hSw; have c2 := HV2.out w hSw; have n1 := HNE.out w; go_simp; try with_reducible rfl
      try simp only [Act.put, tdy]
      refine tkn (v := ?_) 7 rfl ?_ ?_; rotate_left 1
      ·intro w hSw; obtain ⟨s0, s1, s2, s3, s4, s5⟩ := HHP.out w hSw; have c1 := HV1.out w hSw; have c2 := HV2.out w hSw; have n1 := HNE.out w; go_simp; try with_reducible rfl
      try simp only [Act.put, tdy]
      refine tkn (v := ?_) 8 rfl ?_ ?_; rotate_left 1
      ·intro w hSw; obtain ⟨s0, s1, s2, s3, s4, s5⟩ := HHP.out w hSw; have c1 := HV1.out w hSw; have c2 := HV2.out w hSw; have n1 := HNE.out w; go_simp; try with_reducible rfl
      try simp only [Act.put, tdy]
      refine tkn (v := ?_) 9 rfl ?_ ?_; rotate_left 1
      ·intro w hSw; obtain ⟨s0, s1, s2, s3, s4, s5⟩ := HHP.out w hSw; have c1 := HV1.out w hSw; have c2 := HV2.out w hSw; have n1 := HNE.out w; go_simp; try with_reducible rfl
      try simp only [Act.put, tdy]
      refine tkn (v := ?_) 10 rfl ?_ ?_; rotate_left 1
      ·intro w hSw; obtain ⟨s0, s1, s2, s3, s4, s5⟩ := HHP.out w hSw; have c1 := HV1.out w hSw; have c2 := HV2.out w hSw; have n1 := HNE.out w; go_simp; try with_reducible rfl
      try simp only [Act.put, tdy]
      refine tkn (v := .bool false) 11 rfl ?_ ?_
      ·intro w hSw; obtain ⟨s0, s1, s2, s3, s4, s5⟩ := HHP.out w hSw; have c1 := HV1.out w hSw; have c2 := HV2.out w hSw; have n1 := HNE.out w; go_simp; first | done | exact hqq | simpa using hqq
      try simp only [Act.put, tdy]
      refine tkn (v := ?_) 12 rfl ?_ ?_; rotate_left 1
      ·intro w hSw; obtain ⟨s0, s1, s2, s3, s4, s5⟩ := HHP.out w hSw; have c1 := HV1.out w hSw; have c2 := HV2.out w hSw; have n1 := HNE.out w; go_simp; try with_reducible rfl
      try simp only [Act.put, tdy]
      refine tkn (v := ?_) 13 rfl ?_ ?_; rotate_left 1
      ·intro w hSw; obtain ⟨s0, s1, s2, s3, s4, s5⟩ := HHP.out w hSw; have c1 := HV1.out w hSw; have c2 := HV2.out w hSw; have n1 := HNE.out w; go_simp; try with_reducible rfl
      try simp only [Act.put, tdy]
      refine rdy 14 rfl (fun K hK => ?_)
      go_simp
      refine (HSA.out _ hHeld).mono ?_
      rintro e w0 ⟨rfl, hkx⟩
      refine hK.out _ _ (hHeld.trans hkx) (fun hHeld => ?_)
      clear hK K hkx
      try simp only [Act.put, tdy]
      refine tkn (v := ?_) 15 rfl ?_ ?_; rotate_left 1
      ·intro w hSw; obtain ⟨s0, s1, s2, s3, s4, s5⟩ := HHP.out w hSw; have c1 := HV1.out w hSw; have c2 := HV2.out w hSw; have n1 := HNE.out w; go_simp; try with_reducible rfl
      try simp only [Act.put, tdy]
      refine tkn (v := ?_) 16 rfl ?_ ?_; rotate_left 1
      ·intro w hSw; obtain ⟨s0, s1, s2, s3, s4, s5⟩ := HHP.out w hSw; have c1 := HV1.out w hSw; have c2 := HV2.out w hSw; have n1 := HNE.out w; go_simp; try with_reducible rfl
      try simp only [Act.put, tdy]
      refine tkn (v := ?_) 17 rfl ?_ ?_; rotate_left 1
      ·intro w hSw; obtain ⟨s0, s1, s2, s3, s4, s5⟩ := HHP.out w hSw; have c1 := HV1.out w hSw; have c2 := HV2.out w hSw; have n1 := HNE.out w; go_simp; try with_reducible rfl
      try simp only [Act.put, tdy]
      refine tkn (v := ?_) 18 rfl ?_ ?_; rotate_left 1
      ·intro w hSw; obtain ⟨s0, s1, s2, s3, s4, s5⟩ := HHP.out w hSw; have c1 := HV1.out w hSw; have c2 := HV2.out w hSw; have n1 := HNE.out w; go_simp; try with_reducible rfl
      try simp only [Act.put, tdy]
      refine tkn (v := ?_) 19 rfl ?_ ?_; rotate_left 1
      ·intro w hSw; obtain ⟨s0, s1, s2, s3, s4, s5⟩ := HHP.out w hSw; have c1 := HV1.out w hSw; have c2 := HV2.out w hSw; have n1 := HNE.out w; go_simp; try with_reducible rfl
      try simp only [Act.put, tdy]
      refine tkn (v := ?_) 20 rfl ?_ ?_; rotate_left 1
      ·intro w hSw; obtain ⟨s0, s1, s2, s3, s4, s5⟩ := HHP.out w hSw; have c1 := HV1.out w hSw; have c2 := HV2.out w hSw; have n1 := HNE.out w; go_simp; try with_reducible rfl
      try simp only [Act.put, tdy]
      refine tkn (v := ?_) 21 rfl ?_ ?_; rotate_left 1
      ·intro w hSw; obtain ⟨s0, s1, s2, s3, s4, s5⟩ := HHP.out w hSw; have c1 := HV1.out w hSw; have c2 := HV2.out w hSw; have n1 := HNE.out w; go_simp; try with_reducible rfl
      try simp only [Act.put, tdy]
      refine tkn (v := .bool false) 22 rfl ?_ ?_
      ·intro w hSw; obtain ⟨s0, s1, s2, s3, s4, s5⟩ := HHP.out w hSw; have c1 := HV1.out w hSw; have c2 := HV2.out w hSw; have n1 := HNE.out w; go_simp; first | done | exact hqq | simpa using hqq
      try simp only [Act.put, tdy]
      refine tkn (v := ?_) 23 rfl ?_ ?_; rotate_left 1
      ·intro w hSw; obtain ⟨s0, s1, s2, s3, s4, s5⟩ := HHP.out w hSw; have c1 := HV1.out w hSw; have c2 := HV2.out w hSw; have n1 := HNE.out w; go_simp; try with_reducible rfl
      try simp only [Act.put, tdy]
      refine wpAnyH_take (i := 24) (v := undef) rfl (by kernel_rfl) (by kernel_rfl) (by kernel_rfl) (fun _ _ _ h => h) (Or.inr ⟨by rfl, rfl⟩) (by assumption) ?_
      try simp only [Act.put, tdy]
      refine wpAnyH_take (i := 25) (v := undef) rfl (by kernel_rfl) (by kernel_rfl) (by kernel_rfl) (fun _ _ _ h => h) (Or.inr ⟨by rfl, rfl⟩) (by assumption) ?_
      try simp only [Act.put, tdy]
      refine wpAnyH_take (i := 26) (v := undef) rfl (by kernel_rfl) (by kernel_rfl) (by kernel_rfl) (fun _ _ _ h => h) (Or.inr ⟨by rfl, rfl⟩) (by assumption) ?_
      try simp only [Act.put, tdy]
      refine wpAnyH_take (i := 27) (v := undef) rfl (by kernel_rfl) (by kernel_rfl) (by kernel_rfl) (fun _ _ _ h => h) (Or.inr ⟨by rfl, rfl⟩) (by assumption) ?_
      try simp only [Act.put, tdy]
      refine wpAnyH_take (i := 28) (v := undef) rfl (by kernel_rfl) (by kernel_rfl) (by kernel_rfl) (fun _ _ _ h => h) (Or.inr ⟨by rfl, rfl⟩) (by assumption) ?_
      try simp only [Act.put, tdy]
      refine wpAnyH_take (i := 29) (v := undef) rfl (by kernel_rfl) (by kernel_rfl) (by kernel_rfl) (fun _ _ _ h => h) (Or.inr ⟨by rfl, rfl⟩) (by assumption) ?_
      try simp only [Act.put, tdy]
      refine wpAnyH_take (i := 30) (v := undef) rfl (by kernel_rfl) (by kernel_rfl) (by kernel_rfl) (fun _ _ _ h => h) (Or.inr ⟨by rfl, rfl⟩) (by assumption) ?_
      try simp only [Act.put, tdy]
      refine tkn (v := ?_) 31 rfl ?_ ?_; rotate_left 1
      ·intro w hSw; obtain ⟨s0, s1, s2, s3, s4, s5⟩ := HHP.out w hSw; have c1 := HV1.out w hSw; have c2 := HV2.out w hSw; have n1 := HNE.out w; go_simp; try with_reducible rfl
      try simp only [Act.put, tdy]
      refine tkn (v := ?_) 32 rfl ?_ ?_; rotate_left 1
      ·intro w hSw; obtain ⟨s0, s1, s2, s3, s4, s5⟩ := HHP.out w hSw; have c1 := HV1.out w hSw; have c2 := HV2.out w hSw; have n1 := HNE.out w; go_simp; try with_reducible rfl
      try simp only [Act.put, tdy]
      refine wpAnyH_done (by kernel_rfl) ?_ _
      have HKE := hid_of hHeld
      clear hHeld
      go_wp2_with fail
      go_meet
      exact ⟨rfl, HKE⟩
     ·have e2 : (qe == 0) = false := by simpa using hq0
      clear HSE
      refine wp_region_held_drew (S := fun w' => Kept (fun _ => False) w4 w') (by kernel_rfl) ((Kept.refl _ _).drew) (fun hHeld => ?_)
      generalize w4.drew = w0 at *
      refine tkn (v := ?_) 0 rfl ?_ ?_; rotate_left 1
      ·intro w hSw; obtain ⟨s0, s1, s2, s3, s4, s5⟩ := HHP.out w hSw; have c1 := HV1.out w hSw; have c2 := HV2.out w hSw; have n1 := HNE.out w; go_simp; try with_reducible rfl
      try simp only [Act.put, tdy]
      refine tkn (v := ?_) 1 rfl ?_ ?_; rotate_left 1
      ·intro w hSw; obtain ⟨s0, s1, s2, s3, s4, s5⟩ := HHP.out w hSw; have c1 := HV1.out w hSw; have c2 := HV2.out w hSw; have n1 := HNE.out w; go_simp; try with_reducible rfl
      try simp only [Act.put, tdy]
      refine tkn (v := ?_) 2 rfl ?_ ?_; rotate_left 1
      ·intro w hSw; obtain ⟨s0, s1, s2, s3, s4, s5⟩ := HHP.out w hSw; have c1 := HV1.out w hSw; have c2 := HV2.out w hSw; have n1 := HNE.out w; go_simp; try with_reducible rfl
      try simp only [Act.put, tdy]
      refine tkn (v := ?_) 3 rfl ?_ ?_; rotate_left 1
      ·intro w hSw; obtain ⟨s0, s1, s2, s3, s4, s5⟩ := HHP.out w hSw; have c1 := HV1.out w hSw; have c2 := HV2.out w hSw; have n1 := HNE.out w; go_simp; try with_reducible rfl
      try simp only [Act.put, tdy]
      refine tkn (v := .bool false) 4 rfl ?_ ?_
      ·intro w hSw; obtain ⟨s0, s1, s2, s3, s4, s5⟩ := HHP.out w hSw; have c1 := HV1.out w hSw; have c2 := HV2.out w hSw; have n1 := HNE.out w; go_simp; first | done | exact e2 | simpa using e2
      try simp only [Act.put, tdy]
      refine tkn (v := ?_) 5 rfl ?_ ?_; rotate_left 1
      ·intro w hSw; obtain ⟨s0, s1, s2, s3, s4, s5⟩ := HHP.out w hSw; have c1 := HV1.out w hSw; have c2 := HV2.out w hSw; have n1 := HNE.out w; go_simp; try with_reducible rfl
      try simp only [Act.put, tdy]
      refine tkn (v := ?_) 6 rfl ?_ ?_; rotate_left 1
      ·intro w hSw; obtain ⟨s0, s1, s2, s3, s4, s5⟩ := HHP.out w hSw; have c1 := HV1.out w hSw; have c2 := HV2.out w hSw; have n1 := HNE.out w; go_simp; try with_reducible rfl
      try simp only [Act.put, tdy]
      refine wpAnyH_take (i := 7) (v := undef) rfl (by kernel_rfl) (by kernel_rfl) (by kernel_rfl) (fun _ _ _ h => h) (Or.inr ⟨by rfl, rfl⟩) (by assumption) ?_
      try simp only [Act.put, tdy]
      refine wpAnyH_take (i := 8) (v := undef) rfl (by kernel_rfl) (by kernel_rfl) (by kernel_rfl) (fun _ _ _ h => h) (Or.inr ⟨by rfl, rfl⟩) (by assumption) ?_
      try simp only [Act.put, tdy]
      refine wpAnyH_take (i := 9) (v := undef) rfl (by kernel_rfl) (by kernel_rfl) (by kernel_rfl) (fun _ _ _ h => h) (Or.inr ⟨by rfl, rfl⟩) (by assumption) ?_
      try simp only [Act.put, tdy]
      refine wpAnyH_take (i := 10) (v := undef) rfl (by kernel_rfl) (by kernel_rfl) (by kernel_rfl) (fun _ _ _ h => h) (Or.inr ⟨by rfl, rfl⟩) (by assumption) ?_
      try simp only [Act.put, tdy]
      refine wpAnyH_take (i := 11) (v := undef) rfl (by kernel_rfl) (by kernel_rfl) (by kernel_rfl) (fun _ _ _ h => h) (Or.inr ⟨by rfl, rfl⟩) (by assumption) ?_
      try simp only [Act.put, tdy]
      refine wpAnyH_take (i := 12) (v := undef) rfl (by kernel_rfl) (by kernel_rfl) (by kernel_rfl) (fun _ _ _ h => h) (Or.inr ⟨by rfl, rfl⟩) (by assumption) ?_
      try simp only [Act.put, tdy]
      refine wpAnyH_take (i := 13) (v := undef) rfl (by kernel_rfl) (by kernel_rfl) (by kernel_rfl) (fun _ _ _ h => h) (Or.inr ⟨by rfl, rfl⟩) (by assumption) ?_
      try simp only [Act.put, tdy]
      refine wpAnyH_take (i := 14) (v := undef) rfl (by kernel_rfl) (by kernel_rfl) (by kernel_rfl) (fun _ _ _ h => h) (Or.inr ⟨by rfl, rfl⟩) (by assumption) ?_
      try simp only [Act.put, tdy]
      refine wpAnyH_take (i := 15) (v := undef) rfl (by kernel_rfl) (by kernel_rfl) (by kernel_rfl) (fun _ _ _ h => h) (Or.inr ⟨by rfl, rfl⟩) (by assumption) ?_
      try simp only [Act.put, tdy]
      refine tkn (v := ?_) 16 rfl ?_ ?_; rotate_left 1
      ·intro w hSw; obtain ⟨s0, s1, s2, s3, s4, s5⟩ := HHP.out w hSw; have c1 := HV1.out w hSw; have c2 := HV2.out w hSw; have n1 := HNE.out w; go_simp; try with_reducible rfl
      try simp only [Act.put, tdy]
      refine tkn (v := ?_) 17 rfl ?_ ?_; rotate_left 1
      ·intro w hSw; obtain ⟨s0, s1, s2, s3, s4, s5⟩ := HHP.out w hSw; have c1 := HV1.out w hSw; have c2 := HV2.out w hSw; have n1 := HNE.out w; go_simp; try with_reducible rfl
      try simp only [Act.put, tdy]
      refine tkn (v := ?_) 18 rfl ?_ ?_; rotate_left 1
      ·intro w hSw; obtain ⟨s0, s1, s2, s3, s4, s5⟩ := HHP.out w hSw; have c1 := HV1.out w hSw; have c2 := HV2.out w hSw; have n1 := HNE.out w; go_simp; try with_reducible rfl
      try simp only [Act.put, tdy]
      refine tkn (v := ?_) 19 rfl ?_ ?_; rotate_left 1
      ·intro w hSw; obtain ⟨s0, s1, s2, s3, s4, s5⟩ := HHP.out w hSw; have c1 := HV1.out w hSw; have c2 := HV2.out w hSw; have n1 := HNE.out w; go_simp; try with_reducible rfl
      try simp only [Act.put, tdy]
      refine tkn (v := ?_) 20 rfl ?_ ?_; rotate_left 1
      ·intro w hSw; obtain ⟨s0, s1, s2, s3, s4, s5⟩ := HHP.out w hSw; have c1 := HV1.out w hSw; have c2 := HV2.out w hSw; have n1 := HNE.out w; go_simp; try with_reducible rfl
      try simp only [Act.put, tdy]
      refine tkn (v := ?_) 21 rfl ?_ ?_; rotate_left 1
      ·intro w hSw; obtain ⟨s0, s1, s2, s3, s4, s5⟩ := HHP.out w hSw; have c1 := HV1.out w hSw; have c2 := HV2.out w hSw; have n1 := HNE.out w; go_simp; try with_reducible rfl
      try simp only [Act.put, tdy]
      refine tkn (v := .bool false) 22 rfl ?_ ?_
      ·intro w hSw; obtain ⟨s0, s1, s2, s3, s4, s5⟩ := HHP.out w hSw; have c1 := HV1.out w hSw; have c2 := HV2.out w hSw; have n1 := HNE.out w; go_simp; first | done | exact hqq | simpa using hqq
      try simp only [Act.put, tdy]
      refine tkn (v := ?_) 23 rfl ?_ ?_; rotate_left 1
      ·intro w hSw; obtain ⟨s0, s1, s2, s3, s4, s5⟩ := HHP.out w hSw; have c1 := HV1.out w hSw; have c2 := HV2.out w hSw; have n1 := HNE.out w; go_simp; try with_reducible rfl
      try simp only [Act.put, tdy]
      refine wpAnyH_take (i := 24) (v := undef) rfl (by kernel_rfl) (by kernel_rfl) (by kernel_rfl) (fun _ _ _ h => h) (Or.inr ⟨by rfl, rfl⟩) (by assumption) ?_
      try simp only [Act.put, tdy]
      refine wpAnyH_take (i := 25) (v := undef) rfl (by kernel_rfl) (by kernel_rfl) (by kernel_rfl) (fun _ _ _ h => h) (Or.inr ⟨by rfl, rfl⟩) (by assumption) ?_
      try simp only [Act.put, tdy]
      refine wpAnyH_take (i := 26) (v := undef) rfl (by kernel_rfl) (by kernel_rfl) (by kernel_rfl) (fun _ _ _ h => h) (Or.inr ⟨by rfl, rfl⟩) (by assumption) ?_
      try simp only [Act.put, tdy]
      refine wpAnyH_take (i := 27) (v := undef) rfl (by kernel_rfl) (by kernel_rfl) (by kernel_rfl) (fun _ _ _ h => h) (Or.inr ⟨by rfl, rfl⟩) (by assumption) ?_
      try simp only [Act.put, tdy]
      refine wpAnyH_take (i := 28) (v := undef) rfl (by kernel_rfl) (by kernel_rfl) (by kernel_rfl) (fun _ _ _ h => h) (Or.inr ⟨by rfl, rfl⟩) (by assumption) ?_
      try simp only [Act.put, tdy]
      refine wpAnyH_take (i := 29) (v := undef) rfl (by kernel_rfl) (by kernel_rfl) (by kernel_rfl) (fun _ _ _ h => h) (Or.inr ⟨by rfl, rfl⟩) (by assumption) ?_
      try simp only [Act.put, tdy]
      refine wpAnyH_take (i := 30) (v := undef) rfl (by kernel_rfl) (by kernel_rfl) (by kernel_rfl) (fun _ _ _ h => h) (Or.inr ⟨by rfl, rfl⟩) (by assumption) ?_
      try simp only [Act.put, tdy]
      refine tkn (v := ?_) 31 rfl ?_ ?_; rotate_left 1
      ·intro w hSw; obtain ⟨s0, s1, s2, s3, s4, s5⟩ := HHP.out w hSw; have c1 := HV1.out w hSw; have c2 := HV2.out w hSw; have n1 := HNE.out w; go_simp; try with_reducible rfl
      try simp only [Act.put, tdy]
      refine tkn (v := ?_) 32 rfl ?_ ?_; rotate_left 1
      ·intro w hSw; obtain ⟨s0, s1, s2, s3, s4, s5⟩ := HHP.out w hSw; have c1 := HV1.out w hSw; have c2 := HV2.out w hSw; have n1 := HNE.out w; go_simp; try with_reducible rfl
      try simp only [Act.put, tdy]
      refine wpAnyH_done (by kernel_rfl) ?_ _
      have HKE := hid_of hHeld
      clear hHeld
      go_wp2_with fail
      go_meet
      exact ⟨rfl, HKE⟩
    ·have e2 : (pe == 0) = false := by simpa using hp0
     clear HSE
     refine wp_region_held_drew (S := fun w' => Kept (fun _ => False) w4 w') (by kernel_rfl) ((Kept.refl _ _).drew) (fun hHeld => ?_)
     generalize w4.drew = w0 at *
     refine tkn (v := ?_) 0 rfl ?_ ?_; rotate_left 1
     ·intro w hSw; obtain ⟨s0, s1, s2, s3, s4, s5⟩ := HHP.out w hSw; have c1 := HV1.out w hSw; have c2 := HV2.out w hSw; have n1 := HNE.out w; go_simp; try with_reducible rfl
     try simp only [Act.put, tdy]
     refine tkn (v := .bool false) 1 rfl ?_ ?_
     ·intro w hSw; obtain ⟨s0, s1, s2, s3, s4, s5⟩ := HHP.out w hSw; have c1 := HV1.out w hSw; have c2 := HV2.out w hSw; have n1 := HNE.out w; go_simp; first | done | exact e2 | simpa using e2
     try simp only [Act.put, tdy]
     refine tkn (v := ?_) 2 rfl ?_ ?_; rotate_left 1
     ·intro w hSw; obtain ⟨s0, s1, s2, s3, s4, s5⟩ := HHP.out w hSw; have c1 := HV1.out w hSw; have c2 := HV2.out w hSw; have n1 := HNE.out w; go_simp; try with_reducible rfl
     try simp only [Act.put, tdy]
     refine wpAnyH_take (i := 3) (v := undef) rfl (by kernel_rfl) (by kernel_rfl) (by kernel_rfl) (fun _ _ _ h => h) (Or.inr ⟨by rfl, rfl⟩) (by assumption) ?_
     try simp only [Act.put, tdy]
     refine wpAnyH_take (i := 4) (v := undef) rfl (by kernel_rfl) (by kernel_rfl) (by kernel_rfl) (fun _ _ _ h => h) (Or.inr ⟨by rfl, rfl⟩) (by assumption) ?_
     try simp only [Act.put, tdy]
     refine tkn (v := ?_) 5 rfl ?_ ?_; rotate_left 1
     ·intro w hSw; obtain ⟨s0, s1, s2, s3, s4, s5⟩ := HHP.out w hSw; have c1 := HV1.out w hSw; have c2 := HV2.out w hSw; have n1 := HNE.out w; go_simp; try with_reducible rfl
     try simp only [Act.put, tdy]
     refine tkn (v := ?_) 6 rfl ?_ ?_; rotate_left 1
     ·intro w hSw; obtain ⟨s0, s1, s2, s3, s4, s5⟩ := HHP.out w hSw; have c1 := HV1.out w hSw; have c2 := HV2.out w hSw; have n1 := HNE.out w; go_simp; try with_reducible rfl
     try simp only [Act.put, tdy]
     refine wpAnyH_take (i := 7) (v := undef) rfl (by kernel_rfl) (by kernel_rfl) (by kernel_rfl) (fun _ _ _ h => h) (Or.inr ⟨by rfl, rfl⟩) (by assumption) ?_
     try simp only [Act.put, tdy]
     refine wpAnyH_take (i := 8) (v := undef) rfl (by kernel_rfl) (by kernel_rfl) (by kernel_rfl) (fun _ _ _ h => h) (Or.inr ⟨by rfl, rfl⟩) (by assumption) ?_
     try simp only [Act.put, tdy]
     refine wpAnyH_take (i := 9) (v := undef) rfl (by kernel_rfl) (by kernel_rfl) (by kernel_rfl) (fun _ _ _ h => h) (Or.inr ⟨by rfl, rfl⟩) (by assumption) ?_
     try simp only [Act.put, tdy]
     refine wpAnyH_take (i := 10) (v := undef) rfl (by kernel_rfl) (by kernel_rfl) (by kernel_rfl) (fun _ _ _ h => h) (Or.inr ⟨by rfl, rfl⟩) (by assumption) ?_
     try simp only [Act.put, tdy]
     refine wpAnyH_take (i := 11) (v := undef) rfl (by kernel_rfl) (by kernel_rfl) (by kernel_rfl) (fun _ _ _ h => h) (Or.inr ⟨by rfl, rfl⟩) (by assumption) ?_
     try simp only [Act.put, tdy]
     refine wpAnyH_take (i := 12) (v := undef) rfl (by kernel_rfl) (by kernel_rfl) (by kernel_rfl) (fun _ _ _ h => h) (Or.inr ⟨by rfl, rfl⟩) (by assumption) ?_
     try simp only [Act.put, tdy]
     refine wpAnyH_take (i := 13) (v := undef) rfl (by kernel_rfl) (by kernel_rfl) (by kernel_rfl) (fun _ _ _ h => h) (Or.inr ⟨by rfl, rfl⟩) (by assumption) ?_
     try simp only [Act.put, tdy]
     refine wpAnyH_take (i := 14) (v := undef) rfl (by kernel_rfl) (by kernel_rfl) (by kernel_rfl) (fun _ _ _ h => h) (Or.inr ⟨by rfl, rfl⟩) (by assumption) ?_
     try simp only [Act.put, tdy]
     refine wpAnyH_take (i := 15) (v := undef) rfl (by kernel_rfl) (by kernel_rfl) (by kernel_rfl) (fun _ _ _ h => h) (Or.inr ⟨by rfl, rfl⟩) (by assumption) ?_
     try simp only [Act.put, tdy]
     refine tkn (v := ?_) 16 rfl ?_ ?_; rotate_left 1
     ·intro w hSw; obtain ⟨s0, s1, s2, s3, s4, s5⟩ := HHP.out w hSw; have c1 := HV1.out w hSw; have c2 := HV2.out w hSw; have n1 := HNE.out w; go_simp; try with_reducible rfl
     try simp only [Act.put, tdy]
     refine tkn (v := ?_) 17 rfl ?_ ?_; rotate_left 1
     ·intro w hSw; obtain ⟨s0, s1, s2, s3, s4, s5⟩ := HHP.out w hSw; have c1 := HV1.out w hSw; have c2 := HV2.out w hSw; have n1 := HNE.out w; go_simp; try with_reducible rfl
     try simp only [Act.put, tdy]
     refine tkn (v := ?_) 18 rfl ?_ ?_; rotate_left 1
     ·intro w hSw; obtain ⟨s0, s1, s2, s3, s4, s5⟩ := HHP.out w hSw; have c1 := HV1.out w hSw; have c2 := HV2.out w hSw; have n1 := HNE.out w; go_simp; try with_reducible rfl
     try simp only [Act.put, tdy]
     refine tkn (v := ?_) 19 rfl ?_ ?_; rotate_left 1
     ·intro w hSw; obtain ⟨s0, s1, s2, s3, s4, s5⟩ := HHP.out w hSw; have c1 := HV1.out w hSw; have c2 := HV2.out w hSw; have n1 := HNE.out w; go_simp; try with_reducible rfl
     try simp only [Act.put, tdy]
     refine tkn (v := ?_) 20 rfl ?_ ?_; rotate_left 1
     ·intro w hSw; obtain ⟨s0, s1, s2, s3, s4, s5⟩ := HHP.out w hSw; have c1 := HV1.out w hSw; have c2 := HV2.out w hSw; have n1 := HNE.out w; go_simp; try with_reducible rfl
     try simp only [Act.put, tdy]
     refine tkn (v := ?_) 21 rfl ?_ ?_; rotate_left 1
     ·intro w hSw; obtain ⟨s0, s1, s2, s3, s4, s5⟩ := HHP.out w hSw; have c1 := HV1.out w hSw; have c2 := HV2.out w hSw; have n1 := HNE.out w; go_simp; try with_reducible rfl
     try simp only [Act.put, tdy]
     refine tkn (v := .bool false) 22 rfl ?_ ?_
     ·intro w hSw; obtain ⟨s0, s1, s2, s3, s4, s5⟩ := HHP.out w hSw; have c1 := HV1.out w hSw; have c2 := HV2.out w hSw; have n1 := HNE.out w; go_simp; first | done | exact hqq | simpa using hqq
     try simp only [Act.put, tdy]
     refine tkn (v := ?_) 23 rfl ?_ ?_; rotate_left 1
     ·intro w hSw; obtain ⟨s0, s1, s2, s3, s4, s5⟩ := HHP.out w hSw; have c1 := HV1.out w hSw; have c2 := HV2.out w hSw; have n1 := HNE.out w; go_simp; try with_reducible rfl
     try simp only [Act.put, tdy]
     refine wpAnyH_take (i := 24) (v := undef) rfl (by kernel_rfl) (by kernel_rfl) (by kernel_rfl) (fun _ _ _ h => h) (Or.inr ⟨by rfl, rfl⟩) (by assumption) ?_
     try simp only [Act.put, tdy]
     refine wpAnyH_take (i := 25) (v := undef) rfl (by kernel_rfl) (by kernel_rfl) (by kernel_rfl) (fun _ _ _ h => h) (Or.inr ⟨by rfl, rfl⟩) (by assumption) ?_
     try simp only [Act.put, tdy]
     refine wpAnyH_take (i := 26) (v := undef) rfl (by kernel_rfl) (by kernel_rfl) (by kernel_rfl) (fun _ _ _ h => h) (Or.inr ⟨by rfl, rfl⟩) (by assumption) ?_
     try simp only [Act.put, tdy]
     refine wpAnyH_take (i := 27) (v := undef) rfl (by kernel_rfl) (by kernel_rfl) (by kernel_rfl) (fun _ _ _ h => h) (Or.inr ⟨by rfl, rfl⟩) (by assumption) ?_
     try simp only [Act.put, tdy]
     refine wpAnyH_take (i := 28) (v := undef) rfl (by kernel_rfl) (by kernel_rfl) (by kernel_rfl) (fun _ _ _ h => h) (Or.inr ⟨by rfl, rfl⟩) (by assumption) ?_
     try simp only [Act.put, tdy]
     refine wpAnyH_take (i := 29) (v := undef) rfl (by kernel_rfl) (by kernel_rfl) (by kernel_rfl) (fun _ _ _ h => h) (Or.inr ⟨by rfl, rfl⟩) (by assumption) ?_
     try simp only [Act.put, tdy]
     refine wpAnyH_take (i := 30) (v := undef) rfl (by kernel_rfl) (by kernel_rfl) (by kernel_rfl) (fun _ _ _ h => h) (Or.inr ⟨by rfl, rfl⟩) (by assumption) ?_
     try simp only [Act.put, tdy]
     refine tkn (v := ?_) 31 rfl ?_ ?_; rotate_left 1
     ·intro w hSw; obtain ⟨s0, s1, s2, s3, s4, s5⟩ := HHP.out w hSw; have c1 := HV1.out w hSw; have c2 := HV2.out w hSw; have n1 := HNE.out w; go_simp; try with_reducible rfl
     try simp only [Act.put, tdy]
     refine tkn (v := ?_) 32 rfl ?_ ?_; rotate_left 1
     ·intro w hSw; obtain ⟨s0, s1, s2, s3, s4, s5⟩ := HHP.out w hSw; have c1 := HV1.out w hSw; have c2 := HV2.out w hSw; have n1 := HNE.out w; go_simp; try with_reducible rfl
     try simp only [Act.put, tdy]
     refine wpAnyH_done (by kernel_rfl) ?_ _
     have HKE := hid_of hHeld
     clear hHeld
     go_wp2_with fail
     go_meet
     exact ⟨rfl, HKE⟩
   ·have HEQ2 := hid_of (HEQ.out hqq)
    rw [← HEQ2.out] at HR2
    have HNE : Hid (∀ W, (Op.equalIn 10000 32 (.agg ((sha (encV p)).map (Value.int .u8)).toArray) (.agg ((sha (encV p)).map (Value.int .u8)).toArray)).run Tryz.prog W = .ok true W) := fun W => eqIn_sha W (encV p)
    generalize ((sha (encV p)).map (Value.int .u8)).toArray = dg at HR1 HR2 HNE
    clear HEQ
    by_cases hp0 : pe = 0
    ·subst hp0
     by_cases hq0 : qe = 0
     ·subst hq0
      obtain rfl := (HSE.out rfl rfl).trans hqq
      clear HSE
      refine wp_region_held_drew (S := fun w' => Kept (fun _ => False) w4 w') (by kernel_rfl) ((Kept.refl _ _).drew) (fun hHeld => ?_)
      generalize w4.drew = wd at *
      refine tkn (v := ?_) 0 rfl ?_ ?_; rotate_left 1
      ·intro w hSw; obtain ⟨s0, s1, s2, s3, s4, s5⟩ := HHP.out w hSw; have c1 := HV1.out w hSw; have c2 := HV2.out w hSw; have n1 := HNE.out w; go_simp; try with_reducible rfl
      try simp only [Act.put, tdy]
      refine tkn (v := ?_) 1 rfl ?_ ?_; rotate_left 1
      ·intro w hSw; obtain ⟨s0, s1, s2, s3, s4, s5⟩ := HHP.out w hSw; have c1 := HV1.out w hSw; have c2 := HV2.out w hSw; have n1 := HNE.out w; go_simp; try with_reducible rfl
      try simp only [Act.put, tdy]
      refine tkn (v := ?_) 2 rfl ?_ ?_; rotate_left 1
      ·intro w hSw; obtain ⟨s0, s1, s2, s3, s4, s5⟩ := HHP.out w hSw; have c1 := HV1.out w hSw; have c2 := HV2.out w hSw; have n1 := HNE.out w; go_simp; try with_reducible rfl
      try simp only [Act.put, tdy]
      refine tkn (v := ?_) 3 rfl ?_ ?_; rotate_left 1
      ·intro w hSw; obtain ⟨s0, s1, s2, s3, s4, s5⟩ := HHP.out w hSw; have c1 := HV1.out w hSw; have c2 := HV2.out w hSw; have n1 := HNE.out w; go_simp; try with_reducible rfl
      try simp only [Act.put, tdy]
      refine tkn (v := ?_) 4 rfl ?_ ?_; rotate_left 1
      ·intro w hSw; obtain ⟨s0, s1, s2, s3, s4, s5⟩ := HHP.out w hSw; have c1 := HV1.out w hSw; have c2 := HV2.out w hSw; have n1 := HNE.out w; go_simp; try with_reducible rfl
      try simp only [Act.put, tdy]
      refine tkn (v := ?_) 5 rfl ?_ ?_; rotate_left 1
      ·intro w hSw; obtain ⟨s0, s1, s2, s3, s4, s5⟩ := HHP.out w hSw; have c1 := HV1.out w hSw; have c2 := HV2.out w hSw; have n1 := HNE.out w; go_simp; try with_reducible rfl
      try simp only [Act.put, tdy]
      refine tkn (v := ?_) 6 rfl ?_ ?_; rotate_left 1
      ·intro w hSw; obtain ⟨s0, s1, s2, s3, s4, s5⟩ := HHP.out w hSw; have c1 := HV1.out w hSw; have c2 := HV2.out w hSw; have n1 := HNE.out w; go_simp; try with_reducible rfl
      try simp only [Act.put, tdy]
      refine tkn (v := ?_) 7 rfl ?_ ?_; rotate_left 1
      ·intro w hSw; obtain ⟨s0, s1, s2, s3, s4, s5⟩ := HHP.out w hSw; have c1 := HV1.out w hSw; have c2 := HV2.out w hSw; have n1 := HNE.out w; go_simp; try with_reducible rfl
      try simp only [Act.put, tdy]
      refine tkn (v := ?_) 8 rfl ?_ ?_; rotate_left 1
      ·intro w hSw; obtain ⟨s0, s1, s2, s3, s4, s5⟩ := HHP.out w hSw; have c1 := HV1.out w hSw; have c2 := HV2.out w hSw; have n1 := HNE.out w; go_simp; try with_reducible rfl
      try simp only [Act.put, tdy]
      refine tkn (v := ?_) 9 rfl ?_ ?_; rotate_left 1
      ·intro w hSw; obtain ⟨s0, s1, s2, s3, s4, s5⟩ := HHP.out w hSw; have c1 := HV1.out w hSw; have c2 := HV2.out w hSw; have n1 := HNE.out w; go_simp; try with_reducible rfl
      try simp only [Act.put, tdy]
      refine tkn (v := ?_) 10 rfl ?_ ?_; rotate_left 1
      ·intro w hSw; obtain ⟨s0, s1, s2, s3, s4, s5⟩ := HHP.out w hSw; have c1 := HV1.out w hSw; have c2 := HV2.out w hSw; have n1 := HNE.out w; go_simp; try with_reducible rfl
      try simp only [Act.put, tdy]
      refine tkn (v := .bool true) 11 rfl ?_ ?_
      ·intro w hSw; obtain ⟨s0, s1, s2, s3, s4, s5⟩ := HHP.out w hSw; have c1 := HV1.out w hSw; have c2 := HV2.out w hSw; have n1 := HNE.out w; go_simp; first | done | exact hqq | simpa using hqq
      try simp only [Act.put, tdy]
      refine tkn (v := ?_) 12 rfl ?_ ?_; rotate_left 1
      ·intro w hSw; obtain ⟨s0, s1, s2, s3, s4, s5⟩ := HHP.out w hSw; have c1 := HV1.out w hSw; have c2 := HV2.out w hSw; have n1 := HNE.out w; go_simp; try with_reducible rfl
      try simp only [Act.put, tdy]
      refine tkn (v := ?_) 13 rfl ?_ ?_; rotate_left 1
      ·intro w hSw; obtain ⟨s0, s1, s2, s3, s4, s5⟩ := HHP.out w hSw; have c1 := HV1.out w hSw; have c2 := HV2.out w hSw; have n1 := HNE.out w; go_simp; try with_reducible rfl
      try simp only [Act.put, tdy]
      refine rdy 14 rfl (fun K hK => ?_)
      go_simp
      refine (HSA.out _ hHeld).mono ?_
      rintro e w0 ⟨rfl, hkx⟩
      refine hK.out _ _ (hHeld.trans hkx) (fun hHeld => ?_)
      clear hK K hkx
      try simp only [Act.put, tdy]
      refine tkn (v := ?_) 15 rfl ?_ ?_; rotate_left 1
      ·intro w hSw; obtain ⟨s0, s1, s2, s3, s4, s5⟩ := HHP.out w hSw; have c1 := HV1.out w hSw; have c2 := HV2.out w hSw; have n1 := HNE.out w; go_simp; try with_reducible rfl
      try simp only [Act.put, tdy]
      refine tkn (v := ?_) 16 rfl ?_ ?_; rotate_left 1
      ·intro w hSw; obtain ⟨s0, s1, s2, s3, s4, s5⟩ := HHP.out w hSw; have c1 := HV1.out w hSw; have c2 := HV2.out w hSw; have n1 := HNE.out w; go_simp; try with_reducible rfl
      try simp only [Act.put, tdy]
      refine tkn (v := ?_) 17 rfl ?_ ?_; rotate_left 1
      ·intro w hSw; obtain ⟨s0, s1, s2, s3, s4, s5⟩ := HHP.out w hSw; have c1 := HV1.out w hSw; have c2 := HV2.out w hSw; have n1 := HNE.out w; go_simp; try with_reducible rfl
      try simp only [Act.put, tdy]
      refine tkn (v := ?_) 18 rfl ?_ ?_; rotate_left 1
      ·intro w hSw; obtain ⟨s0, s1, s2, s3, s4, s5⟩ := HHP.out w hSw; have c1 := HV1.out w hSw; have c2 := HV2.out w hSw; have n1 := HNE.out w; go_simp; try with_reducible rfl
      try simp only [Act.put, tdy]
      refine tkn (v := ?_) 19 rfl ?_ ?_; rotate_left 1
      ·intro w hSw; obtain ⟨s0, s1, s2, s3, s4, s5⟩ := HHP.out w hSw; have c1 := HV1.out w hSw; have c2 := HV2.out w hSw; have n1 := HNE.out w; go_simp; try with_reducible rfl
      try simp only [Act.put, tdy]
      refine tkn (v := ?_) 20 rfl ?_ ?_; rotate_left 1
      ·intro w hSw; obtain ⟨s0, s1, s2, s3, s4, s5⟩ := HHP.out w hSw; have c1 := HV1.out w hSw; have c2 := HV2.out w hSw; have n1 := HNE.out w; go_simp; try with_reducible rfl
      try simp only [Act.put, tdy]
      refine tkn (v := ?_) 21 rfl ?_ ?_; rotate_left 1
      ·intro w hSw; obtain ⟨s0, s1, s2, s3, s4, s5⟩ := HHP.out w hSw; have c1 := HV1.out w hSw; have c2 := HV2.out w hSw; have n1 := HNE.out w; go_simp; try with_reducible rfl
      try simp only [Act.put, tdy]
      refine tkn (v := .bool true) 22 rfl ?_ ?_
      ·intro w hSw; obtain ⟨s0, s1, s2, s3, s4, s5⟩ := HHP.out w hSw; have c1 := HV1.out w hSw; have c2 := HV2.out w hSw; have n1 := HNE.out w; go_simp; first | done | exact hqq | simpa using hqq
      try simp only [Act.put, tdy]
      refine tkn (v := ?_) 23 rfl ?_ ?_; rotate_left 1
      ·intro w hSw; obtain ⟨s0, s1, s2, s3, s4, s5⟩ := HHP.out w hSw; have c1 := HV1.out w hSw; have c2 := HV2.out w hSw; have n1 := HNE.out w; go_simp; try with_reducible rfl
      try simp only [Act.put, tdy]
      refine tkn (v := ?_) 24 rfl ?_ ?_; rotate_left 1
      ·intro w hSw; obtain ⟨s0, s1, s2, s3, s4, s5⟩ := HHP.out w hSw; have c1 := HV1.out w hSw; have c2 := HV2.out w hSw; have n1 := HNE.out w; go_simp; try with_reducible rfl
      try simp only [Act.put, tdy]
      refine tkn (v := ?_) 27 rfl ?_ ?_; rotate_left 1
      ·intro w hSw; obtain ⟨s0, s1, s2, s3, s4, s5⟩ := HHP.out w hSw; have c1 := HV1.out w hSw; have c2 := HV2.out w hSw; have n1 := HNE.out w; go_simp; try with_reducible rfl
      try simp only [Act.put, tdy]
      refine wpAnyH_ready (rs := [25, 28]) (by kernel_rfl) (by simp) ?_
      refine AllReadyH.cons rfl (fun K hK => ?_) (AllReadyH.cons rfl (fun K hK => ?_) AllReadyH.nil)
      ·go_simp
       obtain ⟨wx, hwx⟩ := nmd (w0.alloc (.cells #[.slice ba bn bc] 22))
       have HXA : Hid (wx.heap[w0.heap.size]? = some (.cells #[.slice ba bn bc] 22 (0, 0))) := by rw [hwx]; exact heap_alloc_new _ _
       have hkx : Kept (fun _ => False) w0 wx := by rw [hwx]; exact (Kept.refl _ _).alloc _
       rw [← hwx]
       refine hK.out _ _ (hHeld.trans hkx) (fun hHeld => ?_)
       clear hK K hwx hkx
       try simp only [Act.put, tdy]
       generalize w0.heap.size = gA at *
       obtain ⟨w1, hw1⟩ := nmd (wx)
       subst hw1
       refine wpAnyH_ready (rs := [26, 28]) (by kernel_rfl) (by simp) ?_
       refine AllReadyH.cons rfl (fun K hK => ?_) (AllReadyH.cons rfl (fun K hK => ?_) AllReadyH.nil)
       ·go_simp
        refine (HR1.out _ _ hHeld HXA.out).mono ?_
        rintro e w2 ⟨rfl, hkx⟩
        replace HXA := hid_of (box_kept hkx HXA.out id)
        refine hK.out _ _ (hHeld.trans hkx) (fun hHeld => ?_)
        clear hK K hkx
        try simp only [Act.put, tdy]
        refine rdy 28 rfl (fun K hK => ?_)
        go_simp
        obtain ⟨wx, hwx⟩ := nmd (w2.alloc (.cells #[.slice ca cn cc] 22))
        have HXB : Hid (wx.heap[w2.heap.size]? = some (.cells #[.slice ca cn cc] 22 (0, 0))) := by rw [hwx]; exact heap_alloc_new _ _
        have hkx : Kept (fun _ => False) w2 wx := by rw [hwx]; exact (Kept.refl _ _).alloc _
        replace HXA := hid_of (box_kept hkx HXA.out id)
        rw [← hwx]
        refine hK.out _ _ (hHeld.trans hkx) (fun hHeld => ?_)
        clear hK K hwx hkx
        try simp only [Act.put, tdy]
        generalize w2.heap.size = gB at *
        obtain ⟨w3, hw3⟩ := nmd (wx)
        subst hw3
        refine rdy 29 rfl (fun K hK => ?_)
        go_simp
        refine (HR2.out _ _ hHeld HXB.out).mono ?_
        rintro e w4 ⟨rfl, hkx⟩
        replace HXA := hid_of (box_kept hkx HXA.out id)
        replace HXB := hid_of (box_kept hkx HXB.out id)
        refine hK.out _ _ (hHeld.trans hkx) (fun hHeld => ?_)
        clear hK K hkx
        try simp only [Act.put, tdy]
        refine tkn (v := ?_) 30 rfl ?_ ?_; rotate_left 1
        ·intro w hSw; obtain ⟨s0, s1, s2, s3, s4, s5⟩ := HHP.out w hSw; have c1 := HV1.out w hSw; have c2 := HV2.out w hSw; have n1 := HNE.out w; go_simp; try with_reducible rfl
        try simp only [Act.put, tdy]
        refine tkn (v := ?_) 31 rfl ?_ ?_; rotate_left 1
        ·intro w hSw; obtain ⟨s0, s1, s2, s3, s4, s5⟩ := HHP.out w hSw; have c1 := HV1.out w hSw; have c2 := HV2.out w hSw; have n1 := HNE.out w; go_simp; try with_reducible rfl
        try simp only [Act.put, tdy]
        refine tkn (v := ?_) 32 rfl ?_ ?_; rotate_left 1
        ·intro w hSw; obtain ⟨s0, s1, s2, s3, s4, s5⟩ := HHP.out w hSw; have c1 := HV1.out w hSw; have c2 := HV2.out w hSw; have n1 := HNE.out w; go_simp; try with_reducible rfl
        try simp only [Act.put, tdy]
        refine wpAnyH_done (by kernel_rfl) ?_ _
        have HKE := hid_of hHeld
        clear hHeld
        go_wp2_with fail
        go_meet
        exact ⟨rfl, HKE⟩
       ·go_simp
        obtain ⟨wx, hwx⟩ := nmd (w1.alloc (.cells #[.slice ca cn cc] 22))
        have HXB : Hid (wx.heap[w1.heap.size]? = some (.cells #[.slice ca cn cc] 22 (0, 0))) := by rw [hwx]; exact heap_alloc_new _ _
        have hkx : Kept (fun _ => False) w1 wx := by rw [hwx]; exact (Kept.refl _ _).alloc _
        replace HXA := hid_of (box_kept hkx HXA.out id)
        rw [← hwx]
        refine hK.out _ _ (hHeld.trans hkx) (fun hHeld => ?_)
        clear hK K hwx hkx
        try simp only [Act.put, tdy]
        generalize w1.heap.size = gB at *
        obtain ⟨w2, hw2⟩ := nmd (wx)
        subst hw2
        refine rdy 26 rfl (fun K hK => ?_)
        go_simp
        refine (HR1.out _ _ hHeld HXA.out).mono ?_
        rintro e w3 ⟨rfl, hkx⟩
        replace HXA := hid_of (box_kept hkx HXA.out id)
        replace HXB := hid_of (box_kept hkx HXB.out id)
        refine hK.out _ _ (hHeld.trans hkx) (fun hHeld => ?_)
        clear hK K hkx
        try simp only [Act.put, tdy]
        refine rdy 29 rfl (fun K hK => ?_)
        go_simp
        refine (HR2.out _ _ hHeld HXB.out).mono ?_
        rintro e w4 ⟨rfl, hkx⟩
        replace HXA := hid_of (box_kept hkx HXA.out id)
        replace HXB := hid_of (box_kept hkx HXB.out id)
        refine hK.out _ _ (hHeld.trans hkx) (fun hHeld => ?_)
        clear hK K hkx
        try simp only [Act.put, tdy]
        refine tkn (v := ?_) 30 rfl ?_ ?_; rotate_left 1
        ·intro w hSw; obtain ⟨s0, s1, s2, s3, s4, s5⟩ := HHP.out w hSw; have c1 := HV1.out w hSw; have c2 := HV2.out w hSw; have n1 := HNE.out w; go_simp; try with_reducible rfl
        try simp only [Act.put, tdy]
        refine tkn (v := ?_) 31 rfl ?_ ?_; rotate_left 1
        ·intro w hSw; obtain ⟨s0, s1, s2, s3, s4, s5⟩ := HHP.out w hSw; have c1 := HV1.out w hSw; have c2 := HV2.out w hSw; have n1 := HNE.out w; go_simp; try with_reducible rfl
        try simp only [Act.put, tdy]
        refine tkn (v := ?_) 32 rfl ?_ ?_; rotate_left 1
        ·intro w hSw; obtain ⟨s0, s1, s2, s3, s4, s5⟩ := HHP.out w hSw; have c1 := HV1.out w hSw; have c2 := HV2.out w hSw; have n1 := HNE.out w; go_simp; try with_reducible rfl
        try simp only [Act.put, tdy]
        refine wpAnyH_done (by kernel_rfl) ?_ _
        have HKE := hid_of hHeld
        clear hHeld
        go_wp2_with fail
        go_meet
        exact ⟨rfl, HKE⟩
      ·go_simp
       obtain ⟨wx, hwx⟩ := nmd (w0.alloc (.cells #[.slice ca cn cc] 22))
       have HXB : Hid (wx.heap[w0.heap.size]? = some (.cells #[.slice ca cn cc] 22 (0, 0))) := by rw [hwx]; exact heap_alloc_new _ _
       have hkx : Kept (fun _ => False) w0 wx := by rw [hwx]; exact (Kept.refl _ _).alloc _
       rw [← hwx]
       refine hK.out _ _ (hHeld.trans hkx) (fun hHeld => ?_)
       clear hK K hwx hkx
       try simp only [Act.put, tdy]
       generalize w0.heap.size = gB at *
       obtain ⟨w1, hw1⟩ := nmd (wx)
       subst hw1
       refine rdy 25 rfl (fun K hK => ?_)
       go_simp
       obtain ⟨wx, hwx⟩ := nmd (w1.alloc (.cells #[.slice ba bn bc] 22))
       have HXA : Hid (wx.heap[w1.heap.size]? = some (.cells #[.slice ba bn bc] 22 (0, 0))) := by rw [hwx]; exact heap_alloc_new _ _
       have hkx : Kept (fun _ => False) w1 wx := by rw [hwx]; exact (Kept.refl _ _).alloc _
       replace HXB := hid_of (box_kept hkx HXB.out id)
       rw [← hwx]
       refine hK.out _ _ (hHeld.trans hkx) (fun hHeld => ?_)
       clear hK K hwx hkx
       try simp only [Act.put, tdy]
       generalize w1.heap.size = gA at *
       obtain ⟨w2, hw2⟩ := nmd (wx)
       subst hw2
       refine rdy 26 rfl (fun K hK => ?_)
       go_simp
       refine (HR1.out _ _ hHeld HXA.out).mono ?_
       rintro e w3 ⟨rfl, hkx⟩
       replace HXB := hid_of (box_kept hkx HXB.out id)
       replace HXA := hid_of (box_kept hkx HXA.out id)
       refine hK.out _ _ (hHeld.trans hkx) (fun hHeld => ?_)
       clear hK K hkx
       try simp only [Act.put, tdy]
       refine rdy 29 rfl (fun K hK => ?_)
       go_simp
       refine (HR2.out _ _ hHeld HXB.out).mono ?_
       rintro e w4 ⟨rfl, hkx⟩
       replace HXB := hid_of (box_kept hkx HXB.out id)
       replace HXA := hid_of (box_kept hkx HXA.out id)
       refine hK.out _ _ (hHeld.trans hkx) (fun hHeld => ?_)
       clear hK K hkx
       try simp only [Act.put, tdy]
       refine tkn (v := ?_) 30 rfl ?_ ?_; rotate_left 1
       ·intro w hSw; obtain ⟨s0, s1, s2, s3, s4, s5⟩ := HHP.out w hSw; have c1 := HV1.out w hSw; have c2 := HV2.out w hSw; have n1 := HNE.out w; go_simp; try with_reducible rfl
       try simp only [Act.put, tdy]
       refine tkn (v := ?_) 31 rfl ?_ ?_; rotate_left 1
       ·intro w hSw; obtain ⟨s0, s1, s2, s3, s4, s5⟩ := HHP.out w hSw; have c1 := HV1.out w hSw; have c2 := HV2.out w hSw; have n1 := HNE.out w; go_simp; try with_reducible rfl
       try simp only [Act.put, tdy]
       refine tkn (v := ?_) 32 rfl ?_ ?_; rotate_left 1
       ·intro w hSw; obtain ⟨s0, s1, s2, s3, s4, s5⟩ := HHP.out w hSw; have c1 := HV1.out w hSw; have c2 := HV2.out w hSw; have n1 := HNE.out w; go_simp; try with_reducible rfl
       try simp only [Act.put, tdy]
       refine wpAnyH_done (by kernel_rfl) ?_ _
       have HKE := hid_of hHeld
       clear hHeld
       go_wp2_with fail
       go_meet
       exact ⟨rfl, HKE⟩
     ·have e2 : (qe == 0) = false := by simpa using hq0
      clear HSE
      refine wp_region_held_drew (S := fun w' => Kept (fun _ => False) w4 w') (by kernel_rfl) ((Kept.refl _ _).drew) (fun hHeld => ?_)
      generalize w4.drew = w0 at *
      refine tkn (v := ?_) 0 rfl ?_ ?_; rotate_left 1
      ·intro w hSw; obtain ⟨s0, s1, s2, s3, s4, s5⟩ := HHP.out w hSw; have c1 := HV1.out w hSw; have c2 := HV2.out w hSw; have n1 := HNE.out w; go_simp; try with_reducible rfl
      try simp only [Act.put, tdy]
      refine tkn (v := ?_) 1 rfl ?_ ?_; rotate_left 1
      ·intro w hSw; obtain ⟨s0, s1, s2, s3, s4, s5⟩ := HHP.out w hSw; have c1 := HV1.out w hSw; have c2 := HV2.out w hSw; have n1 := HNE.out w; go_simp; try with_reducible rfl
      try simp only [Act.put, tdy]
      refine tkn (v := ?_) 2 rfl ?_ ?_; rotate_left 1
      ·intro w hSw; obtain ⟨s0, s1, s2, s3, s4, s5⟩ := HHP.out w hSw; have c1 := HV1.out w hSw; have c2 := HV2.out w hSw; have n1 := HNE.out w; go_simp; try with_reducible rfl
      try simp only [Act.put, tdy]
      refine tkn (v := ?_) 3 rfl ?_ ?_; rotate_left 1
      ·intro w hSw; obtain ⟨s0, s1, s2, s3, s4, s5⟩ := HHP.out w hSw; have c1 := HV1.out w hSw; have c2 := HV2.out w hSw; have n1 := HNE.out w; go_simp; try with_reducible rfl
      try simp only [Act.put, tdy]
      refine tkn (v := .bool false) 4 rfl ?_ ?_
      ·intro w hSw; obtain ⟨s0, s1, s2, s3, s4, s5⟩ := HHP.out w hSw; have c1 := HV1.out w hSw; have c2 := HV2.out w hSw; have n1 := HNE.out w; go_simp; first | done | exact e2 | simpa using e2
      try simp only [Act.put, tdy]
      refine tkn (v := ?_) 5 rfl ?_ ?_; rotate_left 1
      ·intro w hSw; obtain ⟨s0, s1, s2, s3, s4, s5⟩ := HHP.out w hSw; have c1 := HV1.out w hSw; have c2 := HV2.out w hSw; have n1 := HNE.out w; go_simp; try with_reducible rfl
      try simp only [Act.put, tdy]
      refine tkn (v := ?_) 6 rfl ?_ ?_; rotate_left 1
      ·intro w hSw; obtain ⟨s0, s1, s2, s3, s4, s5⟩ := HHP.out w hSw; have c1 := HV1.out w hSw; have c2 := HV2.out w hSw; have n1 := HNE.out w; go_simp; try with_reducible rfl
      try simp only [Act.put, tdy]
      refine wpAnyH_take (i := 7) (v := undef) rfl (by kernel_rfl) (by kernel_rfl) (by kernel_rfl) (fun _ _ _ h => h) (Or.inr ⟨by rfl, rfl⟩) (by assumption) ?_
      try simp only [Act.put, tdy]
      refine wpAnyH_take (i := 8) (v := undef) rfl (by kernel_rfl) (by kernel_rfl) (by kernel_rfl) (fun _ _ _ h => h) (Or.inr ⟨by rfl, rfl⟩) (by assumption) ?_
      try simp only [Act.put, tdy]
      refine wpAnyH_take (i := 9) (v := undef) rfl (by kernel_rfl) (by kernel_rfl) (by kernel_rfl) (fun _ _ _ h => h) (Or.inr ⟨by rfl, rfl⟩) (by assumption) ?_
      try simp only [Act.put, tdy]
      refine wpAnyH_take (i := 10) (v := undef) rfl (by kernel_rfl) (by kernel_rfl) (by kernel_rfl) (fun _ _ _ h => h) (Or.inr ⟨by rfl, rfl⟩) (by assumption) ?_
      try simp only [Act.put, tdy]
      refine wpAnyH_take (i := 11) (v := undef) rfl (by kernel_rfl) (by kernel_rfl) (by kernel_rfl) (fun _ _ _ h => h) (Or.inr ⟨by rfl, rfl⟩) (by assumption) ?_
      try simp only [Act.put, tdy]
      refine wpAnyH_take (i := 12) (v := undef) rfl (by kernel_rfl) (by kernel_rfl) (by kernel_rfl) (fun _ _ _ h => h) (Or.inr ⟨by rfl, rfl⟩) (by assumption) ?_
      try simp only [Act.put, tdy]
      refine wpAnyH_take (i := 13) (v := undef) rfl (by kernel_rfl) (by kernel_rfl) (by kernel_rfl) (fun _ _ _ h => h) (Or.inr ⟨by rfl, rfl⟩) (by assumption) ?_
      try simp only [Act.put, tdy]
      refine wpAnyH_take (i := 14) (v := undef) rfl (by kernel_rfl) (by kernel_rfl) (by kernel_rfl) (fun _ _ _ h => h) (Or.inr ⟨by rfl, rfl⟩) (by assumption) ?_
      try simp only [Act.put, tdy]
      refine wpAnyH_take (i := 15) (v := undef) rfl (by kernel_rfl) (by kernel_rfl) (by kernel_rfl) (fun _ _ _ h => h) (Or.inr ⟨by rfl, rfl⟩) (by assumption) ?_
      try simp only [Act.put, tdy]
      refine tkn (v := ?_) 16 rfl ?_ ?_; rotate_left 1
      ·intro w hSw; obtain ⟨s0, s1, s2, s3, s4, s5⟩ := HHP.out w hSw; have c1 := HV1.out w hSw; have c2 := HV2.out w hSw; have n1 := HNE.out w; go_simp; try with_reducible rfl
      try simp only [Act.put, tdy]
      refine tkn (v := ?_) 17 rfl ?_ ?_; rotate_left 1
      ·intro w hSw; obtain ⟨s0, s1, s2, s3, s4, s5⟩ := HHP.out w hSw; have c1 := HV1.out w hSw; have c2 := HV2.out w hSw; have n1 := HNE.out w; go_simp; try with_reducible rfl
      try simp only [Act.put, tdy]
      refine tkn (v := ?_) 18 rfl ?_ ?_; rotate_left 1
      ·intro w hSw; obtain ⟨s0, s1, s2, s3, s4, s5⟩ := HHP.out w hSw; have c1 := HV1.out w hSw; have c2 := HV2.out w hSw; have n1 := HNE.out w; go_simp; try with_reducible rfl
      try simp only [Act.put, tdy]
      refine tkn (v := ?_) 19 rfl ?_ ?_; rotate_left 1
      ·intro w hSw; obtain ⟨s0, s1, s2, s3, s4, s5⟩ := HHP.out w hSw; have c1 := HV1.out w hSw; have c2 := HV2.out w hSw; have n1 := HNE.out w; go_simp; try with_reducible rfl
      try simp only [Act.put, tdy]
      refine tkn (v := ?_) 20 rfl ?_ ?_; rotate_left 1
      ·intro w hSw; obtain ⟨s0, s1, s2, s3, s4, s5⟩ := HHP.out w hSw; have c1 := HV1.out w hSw; have c2 := HV2.out w hSw; have n1 := HNE.out w; go_simp; try with_reducible rfl
      try simp only [Act.put, tdy]
      refine tkn (v := ?_) 21 rfl ?_ ?_; rotate_left 1
      ·intro w hSw; obtain ⟨s0, s1, s2, s3, s4, s5⟩ := HHP.out w hSw; have c1 := HV1.out w hSw; have c2 := HV2.out w hSw; have n1 := HNE.out w; go_simp; try with_reducible rfl
      try simp only [Act.put, tdy]
      refine tkn (v := .bool true) 22 rfl ?_ ?_
      ·intro w hSw; obtain ⟨s0, s1, s2, s3, s4, s5⟩ := HHP.out w hSw; have c1 := HV1.out w hSw; have c2 := HV2.out w hSw; have n1 := HNE.out w; go_simp; first | done | exact hqq | simpa using hqq
      try simp only [Act.put, tdy]
      refine tkn (v := ?_) 23 rfl ?_ ?_; rotate_left 1
      ·intro w hSw; obtain ⟨s0, s1, s2, s3, s4, s5⟩ := HHP.out w hSw; have c1 := HV1.out w hSw; have c2 := HV2.out w hSw; have n1 := HNE.out w; go_simp; try with_reducible rfl
      try simp only [Act.put, tdy]
      refine tkn (v := ?_) 24 rfl ?_ ?_; rotate_left 1
      ·intro w hSw; obtain ⟨s0, s1, s2, s3, s4, s5⟩ := HHP.out w hSw; have c1 := HV1.out w hSw; have c2 := HV2.out w hSw; have n1 := HNE.out w; go_simp; try with_reducible rfl
      try simp only [Act.put, tdy]
      refine tkn (v := ?_) 27 rfl ?_ ?_; rotate_left 1
      ·intro w hSw; obtain ⟨s0, s1, s2, s3, s4, s5⟩ := HHP.out w hSw; have c1 := HV1.out w hSw; have c2 := HV2.out w hSw; have n1 := HNE.out w; go_simp; try with_reducible rfl
      try simp only [Act.put, tdy]
      refine wpAnyH_ready (rs := [25, 28]) (by kernel_rfl) (by simp) ?_
      refine AllReadyH.cons rfl (fun K hK => ?_) (AllReadyH.cons rfl (fun K hK => ?_) AllReadyH.nil)
      ·go_simp
       obtain ⟨wx, hwx⟩ := nmd (w0.alloc (.cells #[.slice ba bn bc] 22))
       have HXA : Hid (wx.heap[w0.heap.size]? = some (.cells #[.slice ba bn bc] 22 (0, 0))) := by rw [hwx]; exact heap_alloc_new _ _
       have hkx : Kept (fun _ => False) w0 wx := by rw [hwx]; exact (Kept.refl _ _).alloc _
       rw [← hwx]
       refine hK.out _ _ (hHeld.trans hkx) (fun hHeld => ?_)
       clear hK K hwx hkx
       try simp only [Act.put, tdy]
       generalize w0.heap.size = gA at *
       obtain ⟨w1, hw1⟩ := nmd (wx)
       subst hw1
       refine wpAnyH_ready (rs := [26, 28]) (by kernel_rfl) (by simp) ?_
       refine AllReadyH.cons rfl (fun K hK => ?_) (AllReadyH.cons rfl (fun K hK => ?_) AllReadyH.nil)
       ·go_simp
        refine (HR1.out _ _ hHeld HXA.out).mono ?_
        rintro e w2 ⟨rfl, hkx⟩
        replace HXA := hid_of (box_kept hkx HXA.out id)
        refine hK.out _ _ (hHeld.trans hkx) (fun hHeld => ?_)
        clear hK K hkx
        try simp only [Act.put, tdy]
        refine rdy 28 rfl (fun K hK => ?_)
        go_simp
        obtain ⟨wx, hwx⟩ := nmd (w2.alloc (.cells #[.slice ca cn cc] 22))
        have HXB : Hid (wx.heap[w2.heap.size]? = some (.cells #[.slice ca cn cc] 22 (0, 0))) := by rw [hwx]; exact heap_alloc_new _ _
        have hkx : Kept (fun _ => False) w2 wx := by rw [hwx]; exact (Kept.refl _ _).alloc _
        replace HXA := hid_of (box_kept hkx HXA.out id)
        rw [← hwx]
        refine hK.out _ _ (hHeld.trans hkx) (fun hHeld => ?_)
        clear hK K hwx hkx
        try simp only [Act.put, tdy]
        generalize w2.heap.size = gB at *
        obtain ⟨w3, hw3⟩ := nmd (wx)
        subst hw3
        refine rdy 29 rfl (fun K hK => ?_)
        go_simp
        refine (HR2.out _ _ hHeld HXB.out).mono ?_
        rintro e w4 ⟨rfl, hkx⟩
        replace HXA := hid_of (box_kept hkx HXA.out id)
        replace HXB := hid_of (box_kept hkx HXB.out id)
        refine hK.out _ _ (hHeld.trans hkx) (fun hHeld => ?_)
        clear hK K hkx
        try simp only [Act.put, tdy]
        refine tkn (v := ?_) 30 rfl ?_ ?_; rotate_left 1
        ·intro w hSw; obtain ⟨s0, s1, s2, s3, s4, s5⟩ := HHP.out w hSw; have c1 := HV1.out w hSw; have c2 := HV2.out w hSw; have n1 := HNE.out w; go_simp; try with_reducible rfl
        try simp only [Act.put, tdy]
        refine tkn (v := ?_) 31 rfl ?_ ?_; rotate_left 1
        ·intro w hSw; obtain ⟨s0, s1, s2, s3, s4, s5⟩ := HHP.out w hSw; have c1 := HV1.out w hSw; have c2 := HV2.out w hSw; have n1 := HNE.out w; go_simp; try with_reducible rfl
        try simp only [Act.put, tdy]
        refine tkn (v := ?_) 32 rfl ?_ ?_; rotate_left 1
        ·intro w hSw; obtain ⟨s0, s1, s2, s3, s4, s5⟩ := HHP.out w hSw; have c1 := HV1.out w hSw; have c2 := HV2.out w hSw; have n1 := HNE.out w; go_simp; try with_reducible rfl
        try simp only [Act.put, tdy]
        refine wpAnyH_done (by kernel_rfl) ?_ _
        have HKE := hid_of hHeld
        clear hHeld
        go_wp2_with fail
        go_meet
        exact ⟨rfl, HKE⟩
       ·go_simp
        obtain ⟨wx, hwx⟩ := nmd (w1.alloc (.cells #[.slice ca cn cc] 22))
        have HXB : Hid (wx.heap[w1.heap.size]? = some (.cells #[.slice ca cn cc] 22 (0, 0))) := by rw [hwx]; exact heap_alloc_new _ _
        have hkx : Kept (fun _ => False) w1 wx := by rw [hwx]; exact (Kept.refl _ _).alloc _
        replace HXA := hid_of (box_kept hkx HXA.out id)
        rw [← hwx]
        refine hK.out _ _ (hHeld.trans hkx) (fun hHeld => ?_)
        clear hK K hwx hkx
        try simp only [Act.put, tdy]
        generalize w1.heap.size = gB at *
        obtain ⟨w2, hw2⟩ := nmd (wx)
        subst hw2
        refine rdy 26 rfl (fun K hK => ?_)
        go_simp
        refine (HR1.out _ _ hHeld HXA.out).mono ?_
        rintro e w3 ⟨rfl, hkx⟩
        replace HXA := hid_of (box_kept hkx HXA.out id)
        replace HXB := hid_of (box_kept hkx HXB.out id)
        refine hK.out _ _ (hHeld.trans hkx) (fun hHeld => ?_)
        clear hK K hkx
        try simp only [Act.put, tdy]
        refine rdy 29 rfl (fun K hK => ?_)
        go_simp
        refine (HR2.out _ _ hHeld HXB.out).mono ?_
        rintro e w4 ⟨rfl, hkx⟩
        replace HXA := hid_of (box_kept hkx HXA.out id)
        replace HXB := hid_of (box_kept hkx HXB.out id)
        refine hK.out _ _ (hHeld.trans hkx) (fun hHeld => ?_)
        clear hK K hkx
        try simp only [Act.put, tdy]
        refine tkn (v := ?_) 30 rfl ?_ ?_; rotate_left 1
        ·intro w hSw; obtain ⟨s0, s1, s2, s3, s4, s5⟩ := HHP.out w hSw; have c1 := HV1.out w hSw; have c2 := HV2.out w hSw; have n1 := HNE.out w; go_simp; try with_reducible rfl
        try simp only [Act.put, tdy]
        refine tkn (v := ?_) 31 rfl ?_ ?_; rotate_left 1
        ·intro w hSw; obtain ⟨s0, s1, s2, s3, s4, s5⟩ := HHP.out w hSw; have c1 := HV1.out w hSw; have c2 := HV2.out w hSw; have n1 := HNE.out w; go_simp; try with_reducible rfl
        try simp only [Act.put, tdy]
        refine tkn (v := ?_) 32 rfl ?_ ?_; rotate_left 1
        ·intro w hSw; obtain ⟨s0, s1, s2, s3, s4, s5⟩ := HHP.out w hSw; have c1 := HV1.out w hSw; have c2 := HV2.out w hSw; have n1 := HNE.out w; go_simp; try with_reducible rfl
        try simp only [Act.put, tdy]
        refine wpAnyH_done (by kernel_rfl) ?_ _
        have HKE := hid_of hHeld
        clear hHeld
        go_wp2_with fail
        go_meet
        exact ⟨rfl, HKE⟩
      ·go_simp
       obtain ⟨wx, hwx⟩ := nmd (w0.alloc (.cells #[.slice ca cn cc] 22))
       have HXB : Hid (wx.heap[w0.heap.size]? = some (.cells #[.slice ca cn cc] 22 (0, 0))) := by rw [hwx]; exact heap_alloc_new _ _
       have hkx : Kept (fun _ => False) w0 wx := by rw [hwx]; exact (Kept.refl _ _).alloc _
       rw [← hwx]
       refine hK.out _ _ (hHeld.trans hkx) (fun hHeld => ?_)
       clear hK K hwx hkx
       try simp only [Act.put, tdy]
       generalize w0.heap.size = gB at *
       obtain ⟨w1, hw1⟩ := nmd (wx)
       subst hw1
       refine rdy 25 rfl (fun K hK => ?_)
       go_simp
       obtain ⟨wx, hwx⟩ := nmd (w1.alloc (.cells #[.slice ba bn bc] 22))
       have HXA : Hid (wx.heap[w1.heap.size]? = some (.cells #[.slice ba bn bc] 22 (0, 0))) := by rw [hwx]; exact heap_alloc_new _ _
       have hkx : Kept (fun _ => False) w1 wx := by rw [hwx]; exact (Kept.refl _ _).alloc _
       replace HXB := hid_of (box_kept hkx HXB.out id)
       rw [← hwx]
       refine hK.out _ _ (hHeld.trans hkx) (fun hHeld => ?_)
       clear hK K hwx hkx
       try simp only [Act.put, tdy]
       generalize w1.heap.size = gA at *
       obtain ⟨w2, hw2⟩ := nmd (wx)
       subst hw2
       refine rdy 26 rfl (fun K hK => ?_)
       go_simp
       refine (HR1.out _ _ hHeld HXA.out).mono ?_
       rintro e w3 ⟨rfl, hkx⟩
       replace HXB := hid_of (box_kept hkx HXB.out id)
       replace HXA := hid_of (box_kept hkx HXA.out id)
       refine hK.out _ _ (hHeld.trans hkx) (fun hHeld => ?_)
       clear hK K hkx
       try simp only [Act.put, tdy]
       refine rdy 29 rfl (fun K hK => ?_)
       go_simp
       refine (HR2.out _ _ hHeld HXB.out).mono ?_
       rintro e w4 ⟨rfl, hkx⟩
       replace HXB := hid_of (box_kept hkx HXB.out id)
       replace HXA := hid_of (box_kept hkx HXA.out id)
       refine hK.out _ _ (hHeld.trans hkx) (fun hHeld => ?_)
       clear hK K hkx
       try simp only [Act.put, tdy]
       refine tkn (v := ?_) 30 rfl ?_ ?_; rotate_left 1
       ·intro w hSw; obtain ⟨s0, s1, s2, s3, s4, s5⟩ := HHP.out w hSw; have c1 := HV1.out w hSw; have c2 := HV2.out w hSw; have n1 := HNE.out w; go_simp; try with_reducible rfl
       try simp only [Act.put, tdy]
       refine tkn (v := ?_) 31 rfl ?_ ?_; rotate_left 1
       ·intro w hSw; obtain ⟨s0, s1, s2, s3, s4, s5⟩ := HHP.out w hSw; have c1 := HV1.out w hSw; have c2 := HV2.out w hSw; have n1 := HNE.out w; go_simp; try with_reducible rfl
       try simp only [Act.put, tdy]
       refine tkn (v := ?_) 32 rfl ?_ ?_; rotate_left 1
       ·intro w hSw; obtain ⟨s0, s1, s2, s3, s4, s5⟩ := HHP.out w hSw; have c1 := HV1.out w hSw; have c2 := HV2.out w hSw; have n1 := HNE.out w; go_simp; try with_reducible rfl
       try simp only [Act.put, tdy]
       refine wpAnyH_done (by kernel_rfl) ?_ _
       have HKE := hid_of hHeld
       clear hHeld
       go_wp2_with fail
       go_meet
       exact ⟨rfl, HKE⟩
    ·have e2 : (pe == 0) = false := by simpa using hp0
     clear HSE
     refine wp_region_held_drew (S := fun w' => Kept (fun _ => False) w4 w') (by kernel_rfl) ((Kept.refl _ _).drew) (fun hHeld => ?_)
     generalize w4.drew = w0 at *
     refine tkn (v := ?_) 0 rfl ?_ ?_; rotate_left 1
     ·intro w hSw; obtain ⟨s0, s1, s2, s3, s4, s5⟩ := HHP.out w hSw; have c1 := HV1.out w hSw; have c2 := HV2.out w hSw; have n1 := HNE.out w; go_simp; try with_reducible rfl
     try simp only [Act.put, tdy]
     refine tkn (v := .bool false) 1 rfl ?_ ?_
     ·intro w hSw; obtain ⟨s0, s1, s2, s3, s4, s5⟩ := HHP.out w hSw; have c1 := HV1.out w hSw; have c2 := HV2.out w hSw; have n1 := HNE.out w; go_simp; first | done | exact e2 | simpa using e2
     try simp only [Act.put, tdy]
     refine tkn (v := ?_) 2 rfl ?_ ?_; rotate_left 1
     ·intro w hSw; obtain ⟨s0, s1, s2, s3, s4, s5⟩ := HHP.out w hSw; have c1 := HV1.out w hSw; have c2 := HV2.out w hSw; have n1 := HNE.out w; go_simp; try with_reducible rfl
     try simp only [Act.put, tdy]
     refine wpAnyH_take (i := 3) (v := undef) rfl (by kernel_rfl) (by kernel_rfl) (by kernel_rfl) (fun _ _ _ h => h) (Or.inr ⟨by rfl, rfl⟩) (by assumption) ?_
     try simp only [Act.put, tdy]
     refine wpAnyH_take (i := 4) (v := undef) rfl (by kernel_rfl) (by kernel_rfl) (by kernel_rfl) (fun _ _ _ h => h) (Or.inr ⟨by rfl, rfl⟩) (by assumption) ?_
     try simp only [Act.put, tdy]
     refine tkn (v := ?_) 5 rfl ?_ ?_; rotate_left 1
     ·intro w hSw; obtain ⟨s0, s1, s2, s3, s4, s5⟩ := HHP.out w hSw; have c1 := HV1.out w hSw; have c2 := HV2.out w hSw; have n1 := HNE.out w; go_simp; try with_reducible rfl
     try simp only [Act.put, tdy]
     refine tkn (v := ?_) 6 rfl ?_ ?_; rotate_left 1
     ·intro w hSw; obtain ⟨s0, s1, s2, s3, s4, s5⟩ := HHP.out w hSw; have c1 := HV1.out w hSw; have c2 := HV2.out w hSw; have n1 := HNE.out w; go_simp; try with_reducible rfl
     try simp only [Act.put, tdy]
     refine wpAnyH_take (i := 7) (v := undef) rfl (by kernel_rfl) (by kernel_rfl) (by kernel_rfl) (fun _ _ _ h => h) (Or.inr ⟨by rfl, rfl⟩) (by assumption) ?_
     try simp only [Act.put, tdy]
     refine wpAnyH_take (i := 8) (v := undef) rfl (by kernel_rfl) (by kernel_rfl) (by kernel_rfl) (fun _ _ _ h => h) (Or.inr ⟨by rfl, rfl⟩) (by assumption) ?_
     try simp only [Act.put, tdy]
     refine wpAnyH_take (i := 9) (v := undef) rfl (by kernel_rfl) (by kernel_rfl) (by kernel_rfl) (fun _ _ _ h => h) (Or.inr ⟨by rfl, rfl⟩) (by assumption) ?_
     try simp only [Act.put, tdy]
     refine wpAnyH_take (i := 10) (v := undef) rfl (by kernel_rfl) (by kernel_rfl) (by kernel_rfl) (fun _ _ _ h => h) (Or.inr ⟨by rfl, rfl⟩) (by assumption) ?_
     try simp only [Act.put, tdy]
     refine wpAnyH_take (i := 11) (v := undef) rfl (by kernel_rfl) (by kernel_rfl) (by kernel_rfl) (fun _ _ _ h => h) (Or.inr ⟨by rfl, rfl⟩) (by assumption) ?_
     try simp only [Act.put, tdy]
     refine wpAnyH_take (i := 12) (v := undef) rfl (by kernel_rfl) (by kernel_rfl) (by kernel_rfl) (fun _ _ _ h => h) (Or.inr ⟨by rfl, rfl⟩) (by assumption) ?_
     try simp only [Act.put, tdy]
     refine wpAnyH_take (i := 13) (v := undef) rfl (by kernel_rfl) (by kernel_rfl) (by kernel_rfl) (fun _ _ _ h => h) (Or.inr ⟨by rfl, rfl⟩) (by assumption) ?_
     try simp only [Act.put, tdy]
     refine wpAnyH_take (i := 14) (v := undef) rfl (by kernel_rfl) (by kernel_rfl) (by kernel_rfl) (fun _ _ _ h => h) (Or.inr ⟨by rfl, rfl⟩) (by assumption) ?_
     try simp only [Act.put, tdy]
     refine wpAnyH_take (i := 15) (v := undef) rfl (by kernel_rfl) (by kernel_rfl) (by kernel_rfl) (fun _ _ _ h => h) (Or.inr ⟨by rfl, rfl⟩) (by assumption) ?_
     try simp only [Act.put, tdy]
     refine tkn (v := ?_) 16 rfl ?_ ?_; rotate_left 1
     ·intro w hSw; obtain ⟨s0, s1, s2, s3, s4, s5⟩ := HHP.out w hSw; have c1 := HV1.out w hSw; have c2 := HV2.out w hSw; have n1 := HNE.out w; go_simp; try with_reducible rfl
     try simp only [Act.put, tdy]
     refine tkn (v := ?_) 17 rfl ?_ ?_; rotate_left 1
     ·intro w hSw; obtain ⟨s0, s1, s2, s3, s4, s5⟩ := HHP.out w hSw; have c1 := HV1.out w hSw; have c2 := HV2.out w hSw; have n1 := HNE.out w; go_simp; try with_reducible rfl
     try simp only [Act.put, tdy]
     refine tkn (v := ?_) 18 rfl ?_ ?_; rotate_left 1
     ·intro w hSw; obtain ⟨s0, s1, s2, s3, s4, s5⟩ := HHP.out w hSw; have c1 := HV1.out w hSw; have c2 := HV2.out w hSw; have n1 := HNE.out w; go_simp; try with_reducible rfl
     try simp only [Act.put, tdy]
     refine tkn (v := ?_) 19 rfl ?_ ?_; rotate_left 1
     ·intro w hSw; obtain ⟨s0, s1, s2, s3, s4, s5⟩ := HHP.out w hSw; have c1 := HV1.out w hSw; have c2 := HV2.out w hSw; have n1 := HNE.out w; go_simp; try with_reducible rfl
     try simp only [Act.put, tdy]
     refine tkn (v := ?_) 20 rfl ?_ ?_; rotate_left 1
     ·intro w hSw; obtain ⟨s0, s1, s2, s3, s4, s5⟩ := HHP.out w hSw; have c1 := HV1.out w hSw; have c2 := HV2.out w hSw; have n1 := HNE.out w; go_simp; try with_reducible rfl
     try simp only [Act.put, tdy]
     refine tkn (v := ?_) 21 rfl ?_ ?_; rotate_left 1
     ·intro w hSw; obtain ⟨s0, s1, s2, s3, s4, s5⟩ := HHP.out w hSw; have c1 := HV1.out w hSw; have c2 := HV2.out w hSw; have n1 := HNE.out w; go_simp; try with_reducible rfl
     try simp only [Act.put, tdy]
     refine tkn (v := .bool true) 22 rfl ?_ ?_
     ·intro w hSw; obtain ⟨s0, s1, s2, s3, s4, s5⟩ := HHP.out w hSw; have c1 := HV1.out w hSw; have c2 := HV2.out w hSw; have n1 := HNE.out w; go_simp; first | done | exact hqq | simpa using hqq
     try simp only [Act.put, tdy]
     refine tkn (v := ?_) 23 rfl ?_ ?_; rotate_left 1
     ·intro w hSw; obtain ⟨s0, s1, s2, s3, s4, s5⟩ := HHP.out w hSw; have c1 := HV1.out w hSw; have c2 := HV2.out w hSw; have n1 := HNE.out w; go_simp; try with_reducible rfl
     try simp only [Act.put, tdy]
     refine tkn (v := ?_) 24 rfl ?_ ?_; rotate_left 1
     ·intro w hSw; obtain ⟨s0, s1, s2, s3, s4, s5⟩ := HHP.out w hSw; have c1 := HV1.out w hSw; have c2 := HV2.out w hSw; have n1 := HNE.out w; go_simp; try with_reducible rfl
     try simp only [Act.put, tdy]
     refine tkn (v := ?_) 27 rfl ?_ ?_; rotate_left 1
     ·intro w hSw; obtain ⟨s0, s1, s2, s3, s4, s5⟩ := HHP.out w hSw; have c1 := HV1.out w hSw; have c2 := HV2.out w hSw; have n1 := HNE.out w; go_simp; try with_reducible rfl
     try simp only [Act.put, tdy]
     refine wpAnyH_ready (rs := [25, 28]) (by kernel_rfl) (by simp) ?_
     refine AllReadyH.cons rfl (fun K hK => ?_) (AllReadyH.cons rfl (fun K hK => ?_) AllReadyH.nil)
     ·go_simp
      obtain ⟨wx, hwx⟩ := nmd (w0.alloc (.cells #[.slice ba bn bc] 22))
      have HXA : Hid (wx.heap[w0.heap.size]? = some (.cells #[.slice ba bn bc] 22 (0, 0))) := by rw [hwx]; exact heap_alloc_new _ _
      have hkx : Kept (fun _ => False) w0 wx := by rw [hwx]; exact (Kept.refl _ _).alloc _
      rw [← hwx]
      refine hK.out _ _ (hHeld.trans hkx) (fun hHeld => ?_)
      clear hK K hwx hkx
      try simp only [Act.put, tdy]
      generalize w0.heap.size = gA at *
      obtain ⟨w1, hw1⟩ := nmd (wx)
      subst hw1
      refine wpAnyH_ready (rs := [26, 28]) (by kernel_rfl) (by simp) ?_
      refine AllReadyH.cons rfl (fun K hK => ?_) (AllReadyH.cons rfl (fun K hK => ?_) AllReadyH.nil)
      ·go_simp
       refine (HR1.out _ _ hHeld HXA.out).mono ?_
       rintro e w2 ⟨rfl, hkx⟩
       replace HXA := hid_of (box_kept hkx HXA.out id)
       refine hK.out _ _ (hHeld.trans hkx) (fun hHeld => ?_)
       clear hK K hkx
       try simp only [Act.put, tdy]
       refine rdy 28 rfl (fun K hK => ?_)
       go_simp
       obtain ⟨wx, hwx⟩ := nmd (w2.alloc (.cells #[.slice ca cn cc] 22))
       have HXB : Hid (wx.heap[w2.heap.size]? = some (.cells #[.slice ca cn cc] 22 (0, 0))) := by rw [hwx]; exact heap_alloc_new _ _
       have hkx : Kept (fun _ => False) w2 wx := by rw [hwx]; exact (Kept.refl _ _).alloc _
       replace HXA := hid_of (box_kept hkx HXA.out id)
       rw [← hwx]
       refine hK.out _ _ (hHeld.trans hkx) (fun hHeld => ?_)
       clear hK K hwx hkx
       try simp only [Act.put, tdy]
       generalize w2.heap.size = gB at *
       obtain ⟨w3, hw3⟩ := nmd (wx)
       subst hw3
       refine rdy 29 rfl (fun K hK => ?_)
       go_simp
       refine (HR2.out _ _ hHeld HXB.out).mono ?_
       rintro e w4 ⟨rfl, hkx⟩
       replace HXA := hid_of (box_kept hkx HXA.out id)
       replace HXB := hid_of (box_kept hkx HXB.out id)
       refine hK.out _ _ (hHeld.trans hkx) (fun hHeld => ?_)
       clear hK K hkx
       try simp only [Act.put, tdy]
       refine tkn (v := ?_) 30 rfl ?_ ?_; rotate_left 1
       ·intro w hSw; obtain ⟨s0, s1, s2, s3, s4, s5⟩ := HHP.out w hSw; have c1 := HV1.out w hSw; have c2 := HV2.out w hSw; have n1 := HNE.out w; go_simp; try with_reducible rfl
       try simp only [Act.put, tdy]
       refine tkn (v := ?_) 31 rfl ?_ ?_; rotate_left 1
       ·intro w hSw; obtain ⟨s0, s1, s2, s3, s4, s5⟩ := HHP.out w hSw; have c1 := HV1.out w hSw; have c2 := HV2.out w hSw; have n1 := HNE.out w; go_simp; try with_reducible rfl
       try simp only [Act.put, tdy]
       refine tkn (v := ?_) 32 rfl ?_ ?_; rotate_left 1
       ·intro w hSw; obtain ⟨s0, s1, s2, s3, s4, s5⟩ := HHP.out w hSw; have c1 := HV1.out w hSw; have c2 := HV2.out w hSw; have n1 := HNE.out w; go_simp; try with_reducible rfl
       try simp only [Act.put, tdy]
       refine wpAnyH_done (by kernel_rfl) ?_ _
       have HKE := hid_of hHeld
       clear hHeld
       go_wp2_with fail
       go_meet
       exact ⟨rfl, HKE⟩
      ·go_simp
       obtain ⟨wx, hwx⟩ := nmd (w1.alloc (.cells #[.slice ca cn cc] 22))
       have HXB : Hid (wx.heap[w1.heap.size]? = some (.cells #[.slice ca cn cc] 22 (0, 0))) := by rw [hwx]; exact heap_alloc_new _ _
       have hkx : Kept (fun _ => False) w1 wx := by rw [hwx]; exact (Kept.refl _ _).alloc _
       replace HXA := hid_of (box_kept hkx HXA.out id)
       rw [← hwx]
       refine hK.out _ _ (hHeld.trans hkx) (fun hHeld => ?_)
       clear hK K hwx hkx
       try simp only [Act.put, tdy]
       generalize w1.heap.size = gB at *
       obtain ⟨w2, hw2⟩ := nmd (wx)
       subst hw2
       refine rdy 26 rfl (fun K hK => ?_)
       go_simp
       refine (HR1.out _ _ hHeld HXA.out).mono ?_
       rintro e w3 ⟨rfl, hkx⟩
       replace HXA := hid_of (box_kept hkx HXA.out id)
       replace HXB := hid_of (box_kept hkx HXB.out id)
       refine hK.out _ _ (hHeld.trans hkx) (fun hHeld => ?_)
       clear hK K hkx
       try simp only [Act.put, tdy]
       refine rdy 29 rfl (fun K hK => ?_)
       go_simp
       refine (HR2.out _ _ hHeld HXB.out).mono ?_
       rintro e w4 ⟨rfl, hkx⟩
       replace HXA := hid_of (box_kept hkx HXA.out id)
       replace HXB := hid_of (box_kept hkx HXB.out id)
       refine hK.out _ _ (hHeld.trans hkx) (fun hHeld => ?_)
       clear hK K hkx
       try simp only [Act.put, tdy]
       refine tkn (v := ?_) 30 rfl ?_ ?_; rotate_left 1
       ·intro w hSw; obtain ⟨s0, s1, s2, s3, s4, s5⟩ := HHP.out w hSw; have c1 := HV1.out w hSw; have c2 := HV2.out w hSw; have n1 := HNE.out w; go_simp; try with_reducible rfl
       try simp only [Act.put, tdy]
       refine tkn (v := ?_) 31 rfl ?_ ?_; rotate_left 1
       ·intro w hSw; obtain ⟨s0, s1, s2, s3, s4, s5⟩ := HHP.out w hSw; have c1 := HV1.out w hSw; have c2 := HV2.out w hSw; have n1 := HNE.out w; go_simp; try with_reducible rfl
       try simp only [Act.put, tdy]
       refine tkn (v := ?_) 32 rfl ?_ ?_; rotate_left 1
       ·intro w hSw; obtain ⟨s0, s1, s2, s3, s4, s5⟩ := HHP.out w hSw; have c1 := HV1.out w hSw; have c2 := HV2.out w hSw; have n1 := HNE.out w; go_simp; try with_reducible rfl
       try simp only [Act.put, tdy]
       refine wpAnyH_done (by kernel_rfl) ?_ _
       have HKE := hid_of hHeld
       clear hHeld
       go_wp2_with fail
       go_meet
       exact ⟨rfl, HKE⟩
     ·go_simp
      obtain ⟨wx, hwx⟩ := nmd (w0.alloc (.cells #[.slice ca cn cc] 22))
      have HXB : Hid (wx.heap[w0.heap.size]? = some (.cells #[.slice ca cn cc] 22 (0, 0))) := by rw [hwx]; exact heap_alloc_new _ _
      have hkx : Kept (fun _ => False) w0 wx := by rw [hwx]; exact (Kept.refl _ _).alloc _
      rw [← hwx]
      refine hK.out _ _ (hHeld.trans hkx) (fun hHeld => ?_)
      clear hK K hwx hkx
      try simp only [Act.put, tdy]
      generalize w0.heap.size = gB at *
      obtain ⟨w1, hw1⟩ := nmd (wx)
      subst hw1
      refine rdy 25 rfl (fun K hK => ?_)
      go_simp
      obtain ⟨wx, hwx⟩ := nmd (w1.alloc (.cells #[.slice ba bn bc] 22))
      have HXA : Hid (wx.heap[w1.heap.size]? = some (.cells #[.slice ba bn bc] 22 (0, 0))) := by rw [hwx]; exact heap_alloc_new _ _
      have hkx : Kept (fun _ => False) w1 wx := by rw [hwx]; exact (Kept.refl _ _).alloc _
      replace HXB := hid_of (box_kept hkx HXB.out id)
      rw [← hwx]
      refine hK.out _ _ (hHeld.trans hkx) (fun hHeld => ?_)
      clear hK K hwx hkx
      try simp only [Act.put, tdy]
      generalize w1.heap.size = gA at *
      obtain ⟨w2, hw2⟩ := nmd (wx)
      subst hw2
      refine rdy 26 rfl (fun K hK => ?_)
      go_simp
      refine (HR1.out _ _ hHeld HXA.out).mono ?_
      rintro e w3 ⟨rfl, hkx⟩
      replace HXB := hid_of (box_kept hkx HXB.out id)
      replace HXA := hid_of (box_kept hkx HXA.out id)
      refine hK.out _ _ (hHeld.trans hkx) (fun hHeld => ?_)
      clear hK K hkx
      try simp only [Act.put, tdy]
      refine rdy 29 rfl (fun K hK => ?_)
      go_simp
      refine (HR2.out _ _ hHeld HXB.out).mono ?_
      rintro e w4 ⟨rfl, hkx⟩
      replace HXB := hid_of (box_kept hkx HXB.out id)
      replace HXA := hid_of (box_kept hkx HXA.out id)
      refine hK.out _ _ (hHeld.trans hkx) (fun hHeld => ?_)
      clear hK K hkx
      try simp only [Act.put, tdy]
      refine tkn (v := ?_) 30 rfl ?_ ?_; rotate_left 1
      ·intro w hSw; obtain ⟨s0, s1, s2, s3, s4, s5⟩ := HHP.out w hSw; have c1 := HV1.out w hSw; have c2 := HV2.out w hSw; have n1 := HNE.out w; go_simp; try with_reducible rfl
      try simp only [Act.put, tdy]
      refine tkn (v := ?_) 31 rfl ?_ ?_; rotate_left 1
      ·intro w hSw; obtain ⟨s0, s1, s2, s3, s4, s5⟩ := HHP.out w hSw; have c1 := HV1.out w hSw; have c2 := HV2.out w hSw; have n1 := HNE.out w; go_simp; try with_reducible rfl
      try simp only [Act.put, tdy]
      refine tkn (v := ?_) 32 rfl ?_ ?_; rotate_left 1
      ·intro w hSw; obtain ⟨s0, s1, s2, s3, s4, s5⟩ := HHP.out w hSw; have c1 := HV1.out w hSw; have c2 := HV2.out w hSw; have n1 := HNE.out w; go_simp; try with_reducible rfl
      try simp only [Act.put, tdy]
      refine wpAnyH_done (by kernel_rfl) ?_ _
      have HKE := hid_of hHeld
      clear hHeld
      go_wp2_with fail
      go_meet
      exact ⟨rfl, HKE⟩
 case rest =>
  as_aux_lemma =>
   obtain ⟨rfl, HK5⟩ := hcut
   obtain ⟨w5, hw5⟩ := nmd (wc)
   subst hw5
   have HB5 := hid_of (HB.out.step HK5.out)
   have HBE := hid_of (HBC.out.kept HK5.out (fun _ _ f => f))
   clear HB HBC HCB HHP HV1 HV2 HSA HSE HEQ HL4 HR1 HR2 HK5 HL
   go_upto_region 7 with fail
   obtain ⟨ge, hge⟩ := nmd (printE p)
   obtain ⟨ps, hps⟩ := nmd (printS p)
   have hpr := print_any _ p _ w5 ((HG.out.same HB5.out.k).gl) HB5.out.p1 HB5.out.lo HOP.out
   rw [← hge, ← hps] at hpr
   have HPR := hid_of hpr
   have HGE := hid_of hge
   have HPS := hid_of hps
   clear hpr hge hps
   obtain ⟨a0, a1, a2, _⟩ := look3 HB5.out.x1
   go_wp2_with fail
   refine HPR.out.mono ?_
   rintro e w6 ⟨rfl, hk6⟩
   have HB6 := hid_of (HB5.out.step hk6)
   have HBE6 := hid_of (HBE.out.kept hk6 (fun _ _ f => f))
   clear hk6 HPR HB5 HBE a0 a1 a2
   obtain ⟨he, hhe⟩ := nmd (printE q)
   obtain ⟨qs, hqs⟩ := nmd (printS q)
   have hpr := print_any _ q _ w6 ((HG.out.same HB6.out.k).gl) HB6.out.p2 HB6.out.lo HOQ.out
   rw [← hhe, ← hqs] at hpr
   have HPR := hid_of hpr
   have HHE := hid_of hhe
   have HQS := hid_of hqs
   clear hpr hhe hqs
   obtain ⟨a0, a1, a2, _⟩ := look3 HB6.out.x2
   go_wp2_with fail
   refine HPR.out.mono ?_
   rintro e w7 ⟨rfl, hk7⟩
   have HB7 := hid_of (HB6.out.step hk7)
   have HBE7 := hid_of (HBE6.out.kept hk7 (fun _ _ f => f))
   clear hk7 HPR HB6 HBE6 a0 a1 a2
   by_cases hx : ge = 0
   ·subst hx
    have HPX : Hid (printE p = 0) := HGE.out.symm
    have HPB := hid_of (parse_back p w7 (HG.out.same HB7.out.k) HPX.out HOP.out)
    rw [← HPS.out] at HPB
    go_wp2_with fail
    refine HPB.out.mono ?_
    rintro e w8 ⟨hk8, ym, yda, ydn, ydc, yfa, yfn, yfc, rfl, hpy⟩
    have hkc : Kept (fun _ => False) w8 (w8.alloc (.cells #[.int .i64 ym, .slice yda ydn ydc, .slice yfa yfn yfc] 25)) := (Kept.refl _ _).alloc _
    have HY := hid_of (heap_alloc_new w8 (.cells #[.int .i64 ym, .slice yda ydn ydc, .slice yfa yfn yfc] 25))
    have HB8 := hid_of (HB7.out.step (hk8.trans hkc))
    have HBE8 := hid_of (HBE7.out.kept (hk8.trans hkc) (fun _ _ f => f))
    have HPY := hid_of (hpy.kept hkc (fun _ _ f => f))
    have HLY : Hid (w8.heap.size ≤ (w8.alloc (.cells #[.int .i64 ym, .slice yda ydn ydc, .slice yfa yfn yfc] 25)).heap.size) := hkc.size
    clear hk8 hkc hpy HPB HB7 HBE7
    have hn1 := nnNil
    go_upto_region 12 with fail
    generalize w8.alloc (.cells #[.int .i64 ym, .slice yda ydn ydc, .slice yfa yfn yfc] 25) = w9 at *
    generalize w8.heap.size = gy at *
    have HSM : Hid (Calls Tryz.prog 6 #[.agg #[.int .i64 ym, .slice yda ydn ydc, .slice yfa yfn yfc], .agg #[.int .i64 pm, .slice pda pdn pdc, .slice pfa pfn pfc]] w9 fun e w' => e = .returned (.bool true) ∧ Kept (fun _ => False) w9 w') := by
     have h9 := same_p _ _ p p w9 w9.heap.size (HPY.out.up HLY.out) (HB8.out.p1.up HB8.out.lo) (Nat.le_refl _) HOP.out HOP.out
     rw [sameP_refl] at h9
     exact h9
    obtain ⟨a0, a1, a2, _⟩ := look3 HB8.out.x1
    obtain ⟨y0, y1, y2, _⟩ := look3 HY.out
    go_wp2_with fail
    refine HSM.out.mono ?_
    rintro e wa ⟨rfl, hka⟩
    have HBA := hid_of (HB8.out.step hka)
    have HBEA := hid_of (HBE8.out.kept hka (fun _ _ f => f))
    have HPYA := hid_of (HPY.out.kept hka (fun _ _ f => f))
    have HYA := hid_of (box_kept hka HY.out id)
    have HLYA : Hid (gy ≤ wa.heap.size) := Nat.le_trans HLY.out hka.size
    clear hka HSM a0 a1 a2 y0 y1 y2 HB8 HBE8 HPY HY HLY
    go_upto_region 14 with fail
    go_cut [101] from 91 to 126 (fun v101 wx => v101 = .bool false ∧ Hid (Kept (fun _ => False) wa wx))
    case first =>
     as_aux_lemma =>
      obtain ⟨a0, a1, a2, _⟩ := look3 HBA.out.x1
      obtain ⟨b0, b1, b2, _⟩ := look3 HBA.out.x2
      by_cases hh : he = 0
      ·subst hh
       have HQX : Hid (printE q = 0) := HHE.out.symm
       have hsa := same_p _ _ p q wa gp HBA.out.p1 HBA.out.p2 HBA.out.lo HOP.out HOQ.out
       rw [← print_same HPX.out HQX.out HOP.out HOQ.out, ← HPS.out, ← HQS.out] at hsa
       cases hqq : (ps.toList == qs.toList)
       ·rw [hqq] at hsa
        have HSA := hid_of hsa
        clear hsa
        go_wp2_with fail
        refine HSA.out.mono ?_
        rintro e wb ⟨rfl, hkb⟩
        have HKB := hid_of hkb
        clear hkb HSA
        go_wp2_with fail
        go_meet
        exact ⟨rfl, HKB⟩
       ·rw [hqq] at hsa
        have HSA := hid_of hsa
        clear hsa
        go_wp2_with fail
        refine HSA.out.mono ?_
        rintro e wb ⟨rfl, hkb⟩
        have HKB := hid_of hkb
        clear hkb HSA
        go_wp2_with fail
        go_meet
        exact ⟨rfl, HKB⟩
      ·have e1 : (he == 0) = false := by simpa using hh
       go_wp2_with fail
       go_meet
       exact ⟨rfl, hid_of (Kept.refl _ _)⟩
    case rest =>
     as_aux_lemma =>
      obtain ⟨rfl, HKB⟩ := hcut
      obtain ⟨wb, hwb⟩ := nmd (wc)
      subst hwb
      have HBB := hid_of (HBA.out.step HKB.out)
      have HBEB := hid_of (HBEA.out.kept HKB.out (fun _ _ f => f))
      have HPYB := hid_of (HPYA.out.kept HKB.out (fun _ _ f => f))
      have HYB := hid_of (box_kept HKB.out HYA.out id)
      have HLYB : Hid (gy ≤ wb.heap.size) := Nat.le_trans HLYA.out HKB.out.size
      clear HBA HBEA HPYA HYA HLYA HKB
      go_upto_region 16 with fail
      have hen := encode_a _ p wb _ HPYB.out HLYB.out HOP.out
      have HEN := hid_of hen
      clear hen
      obtain ⟨y0, y1, y2, _⟩ := look3 HYB.out
      go_wp2_with fail
      refine HEN.out.mono ?_
      rintro e wd ⟨hkd, da, dn, dc, rfl, hd⟩
      rw [← HPE.out]
      have HBD := hid_of (HBB.out.step hkd)
      have HBED := hid_of (HBEB.out.kept hkd (fun _ _ f => f))
      have HPYD := hid_of (HPYB.out.kept hkd (fun _ _ f => f))
      have HYD := hid_of (box_kept hkd HYB.out id)
      have HLYD : Hid (gy ≤ wd.heap.size) := Nat.le_trans HLYB.out hkd.size
      have HDB := hid_of hd
      clear hkd hd HEN y0 y1 y2 HBB HBEB HPYB HYB HLYB
      have hpr := print_any _ p _ wd ((HG.out.same HBD.out.k).gl) HPYD.out HLYD.out HOP.out
      rw [HPX.out, ← HPS.out] at hpr
      have HPR := hid_of hpr
      clear hpr
      obtain ⟨y0, y1, y2, _⟩ := look3 HYD.out
      go_wp2_with fail
      refine HPR.out.mono ?_
      rintro e we ⟨rfl, hke⟩
      have HKE := hid_of (HBD.out.k.trans hke)
      obtain ⟨sb, hsb⟩ := nmd (str (encV p))
      have c1 := conv_str we _ _ (bin_isB (HBED.out.kept hke (fun _ _ f => f)))
      have c2 := conv_str we _ _ (bin_isB (HDB.out.kept hke (fun _ _ f => f)))
      rw [← hsb] at c1 c2
      clear hke HPR y0 y1 y2 HBD HBED HPYD HYD HLYD HDB hsb
      go_wp2
      go_ret
      exact ⟨rfl, HKE.out⟩
   ·have HZ : Hid (ps = ⟨#[]⟩) := HPS.out.trans (printS_zero (fun h => hx (HGE.out.trans h)))
    obtain rfl := HZ.out
    have e1 : (ge == 0) = false := by simpa using hx
    go_wp2
    go_ret
    exact ⟨rfl, HB7.out.k⟩
end Go.Proofs.YtcahibbfejomcaaGreatDoor

import Derived.Test.YtpfmhibdmehlcaaGreatDoorTOx23
namespace Go.Proofs.YtpfmhibdmehlcaaGreatDoor
open Go.RowKit
set_option linter.unusedVariables false
set_option linter.unusedSimpArgs false
set_option maxRecDepth 100000
variable {w0 w : World} {r gm : Nat} {R : Rdr} {NL : List (ByteArray × Int)} {dv fv lv wv : Value} {CV : List Value} {GM : List Nat}
theorem funP_no (R : Rdr) (ps : List Pf) (h : ps.map Pf.k ≠ [0, 1, 1, 1]) : funP R ps = .bad 141 := by
 unfold funP
 split
 ·exact if_pos h
 ·rfl
theorem funP_four (R : Rdr) (p q1 q2 q3 : Pf) : funP R [p, q1, q2, q3] = if [p.k, q1.k, q2.k, q3.k] ≠ [0, 1, 1, 1] then .bad 141 else if (p.f || (q1.f || (q2.f || q3.f))) = true then .bad 143 else if (lkA (nmL 0 R.fs) p.s).isSome = true then .bad 142 else .good ⟨R.mem, R.sized, R.data, R.fs ++ [⟨p.s, q1.n, q2.n, q3.n, [], []⟩], R.ws⟩ := rfl
set_option maxHeartbeats 16000000 in
theorem functionG (g o n c : Nat) (ps : List Pf) (cs : Array Value) (h : RdX w0 w r R dv fv lv wv gm CV GM) (hP : FsAt w g o ps) (hg : w.heap[g]? = some (.cells cs 125 (0, 0))) (hn : n = ps.length) (hl : R.fs.length ≤ 80000) (hnl : n ≤ 90000) (hW : ∀ x ∈ R.ws, x.fn < R.fs.length) :
  Calls Tryz.prog 57 #[.pointer (some ⟨r, 0, none⟩), .slice (some ⟨g, o, none⟩) n c] w (MethR w0 w r (funP R ps)) := by
 have hka : Kept (fun _ => False) w (w.alloc (.cells #[.int .i64 0, .int .i64 1, .int .i64 1, .int .i64 1] 3)) := (Kept.refl _ _).alloc _
 have hba := heap_alloc_new w (.cells #[.int .i64 0, .int .i64 1, .int .i64 1, .int .i64 1] 3)
 have HF := hid_of (fitsG g o n c w.heap.size 4 4 ps [0, 1, 1, 1] (w.alloc (.cells #[.int .i64 0, .int .i64 1, .int .i64 1, .int .i64 1] 3)) (hP.kept hka id) (fun i x hx => by
  rw [cell_block _ _ i _ _ _ hba]
  rcases i with _ | _ | _ | _ | i <;> simp at hx ⊢ <;> exact hx) hn rfl hnl (by omega))
 have HKA := hid_of hka
 have HKW := hid_of h.kept
 by_cases hk : ps.map Pf.k = [0, 1, 1, 1]
 ·rw [decide_eq_true hk] at HF
  obtain ⟨p, q1, q2, q3, rfl⟩ : ∃ p q1 q2 q3, ps = [p, q1, q2, q3] := by
   have hlen := congrArg List.length hk
   simp only [List.length_map, List.length_cons, List.length_nil] at hlen
   match ps, hlen with
   | [p, q1, q2, q3], _ => exact ⟨p, q1, q2, q3, rfl⟩
  have HTF : Hid (∀ w1, Kept (fun _ => False) w w1 → Calls Tryz.prog 76 #[.slice (some ⟨g, o, none⟩) n c] w1 fun e w' => e = .returned (.bool (([p, q1, q2, q3] : List Pf).any Pf.f)) ∧ Kept (fun _ => False) w1 w') := fun w1 hk1 => tooFarG g o n c [p, q1, q2, q3] w1 (hP.kept hk1 id) hn hnl
  have hany : ([p, q1, q2, q3] : List Pf).any Pf.f = (p.f || (q1.f || (q2.f || q3.f))) := by simp
  have hk4 : [p.k, q1.k, q2.k, q3.k] = [0, 1, 1, 1] := hk
  by_cases hfar : ([p, q1, q2, q3] : List Pf).any Pf.f = true
  ·have HE : funP R [p, q1, q2, q3] = .bad 143 := by
    rw [funP_four, if_neg (not_not_intro hk4), if_pos (by rw [← hany]; exact hfar)]
   rw [HE]
   rw [hfar] at HTF
   clear h hba hka HE hk hk4 hfar hany hP hg hn
   go_enter Tryz.func57, Tryz.ntmps57
   go_wp2_with fail
   refine HF.out.mono ?_
   rintro e w2 ⟨rfl, hk2⟩
   have HK2 := hid_of (HKA.out.trans hk2)
   clear hk2 HF
   go_wp2_with fail
   refine (HTF.out _ HK2.out).mono ?_
   rintro e w3 ⟨rfl, hk3⟩
   have HK3 := hid_of (HK2.out.trans hk3)
   clear hk3 HK2
   go_wp2
   go_ret
   exact ⟨HKW.out.trans HK3.out, .inr ⟨_, rfl, rfl⟩⟩
  have hfar' : ([p, q1, q2, q3] : List Pf).any Pf.f = false := by simpa using hfar
  rw [hfar'] at HTF
  have HX := hid_of h
  have hn1 : n = 4 := hn
  have HPP := hid_of hP
  have HGG := hid_of hg
  have HLL : Hid (R.fs.length ≤ 80000) := hl
  have HWW := hid_of hW
  obtain ⟨nf, hnf⟩ := nmd (R.fs.length)
  have HNF := hid_of hnf
  clear hnf
  subst hn1
  clear hn hP hg hl hnl hW
  by_cases hnm : (lkA (nmL 0 R.fs) p.s).isSome = true
  ·have HE : funP R [p, q1, q2, q3] = .bad 142 := by
    rw [funP_four, if_neg (not_not_intro hk4), if_neg (by rw [← hany]; exact hfar), if_pos hnm]
   rw [HE]
   have HNM := hid_of hnm
   clear h hba hka HE hk hk4 hfar hfar' hany hnm
   go_enter Tryz.func57, Tryz.ntmps57
   go_wp2_with fail
   refine HF.out.mono ?_
   rintro e w2 ⟨rfl, hk2⟩
   have HK2 := hid_of (HKA.out.trans hk2)
   clear hk2 HF
   go_wp2_with fail
   refine (HTF.out _ HK2.out).mono ?_
   rintro e w3 ⟨rfl, hk3⟩
   have HK3 := hid_of (HK2.out.trans hk3)
   clear hk3 HK2 HTF
   go_upto_region 5 with fail
   have HX3 := hid_of (HX.out.same HK3.out)
   have hKwd : Kept (fun _ => False) w3 w3.drew := (Kept.refl _ _).drew
   have HGM : Hid (¬ g = gm) := fun e => HX.out.names.not_box HGG.out e
   have HRM : Hid (¬ r = gm) := fun e => HX.out.names.not_box HX.out.box e
   obtain ⟨xa, xc, hfv⟩ := ownsRow_shape HX.out.fns
   rw [← HNF.out] at hfv
   have HSM : Hid (∀ w', Kept (fun q => q = gm) w3 w' → w'.cell? ⟨r, 4, none⟩ = some (.map (some gm)) ∧ w'.cell? ⟨g, o + 1, none⟩ = some (.string p.s) ∧ w'.cell? ⟨r, 2, none⟩ = some (.slice xa nf xc)) := fun w' hw =>
    ⟨hw.cell (cell_block _ _ 4 _ _ _ HX3.out.box) HRM.out, hw.cell ((HPP.out.kept HK3.out id) 0 _ rfl 1 _ rfl) HGM.out, by rw [← hfv]; exact hw.cell (cell_block _ _ 2 _ _ _ HX3.out.box) HRM.out⟩
   clear hfv
   refine wp_region_held_drew (S := fun w' => Kept (fun q => q = gm) w3 w') (by kernel_rfl) ((Kept.refl _ _).drew) (fun hHeld => ?_)
   generalize w3.drew = wd at *
   have HN : Hid (Calls Tryz.prog 79 #[.map (some gm), .string p.s, .int .i64 (nf : Int)] wd fun e w' => e = .returned (.bool false) ∧ w' = wd) := name_old gm p.s nf _ (HX3.out.names.same hKwd) HNM.out
   iterate 14
    refine tkn (v := ?_) 0 rfl ?_ ?_; rotate_left 1
    ·intro w hSw; obtain ⟨s0, s1, s2⟩ := HSM.out w hSw; go_simp; try with_reducible rfl
    try simp only [Act.put, tdy]
   refine rdy 14 rfl (fun K hK => ?_)
   go_simp
   refine HN.out.mono ?_
   rintro e w4 ⟨rfl, hw⟩
   have hw := hw.symm
   subst hw
   refine hK.out _ _ hHeld (fun hHeld => ?_)
   clear hK K
   try simp only [Act.put, tdy]
   iterate 1
    refine tkn (v := ?_) 15 rfl ?_ ?_; rotate_left 1
    ·intro w hSw; go_simp; try with_reducible rfl
    try simp only [Act.put, tdy]
   refine rdy 16 rfl (fun K hK => ?_)
   go_simp
   refine hK.out _ _ hHeld (fun hHeld => ?_)
   clear hK K
   try simp only [Act.put, tdy]
   refine wpAnyH_done (by kernel_rfl) ?_ _
   go_wp2
   go_ret
   exact ⟨(HX3.out.same hKwd).kept, .inr ⟨_, rfl, rfl⟩⟩
  ·have HE : funP R [p, q1, q2, q3] = .good ⟨R.mem, R.sized, R.data, R.fs ++ [⟨p.s, q1.n, q2.n, q3.n, [], []⟩], R.ws⟩ := by
    rw [funP_four, if_neg (not_not_intro hk4), if_neg (by rw [← hany]; exact hfar), if_neg hnm]
   rw [HE]
   have HNM : Hid (lkA (nmL 0 R.fs) p.s = none) := by
    show lkA _ _ = none
    simpa using hnm
   clear h hba hka HE hk hk4 hfar hfar' hany hnm
   go_enter Tryz.func57, Tryz.ntmps57
   go_wp2_with fail
   refine HF.out.mono ?_
   rintro e w2 ⟨rfl, hk2⟩
   have HK2 := hid_of (HKA.out.trans hk2)
   clear hk2 HF
   go_wp2_with fail
   refine (HTF.out _ HK2.out).mono ?_
   rintro e w3 ⟨rfl, hk3⟩
   have HK3 := hid_of (HK2.out.trans hk3)
   clear hk3 HK2 HTF
   go_upto_region 5 with fail
   have HX3 := hid_of (HX.out.same HK3.out)
   have hKwd : Kept (fun _ => False) w3 w3.drew := (Kept.refl _ _).drew
   have HGM : Hid (¬ g = gm) := fun e => HX.out.names.not_box HGG.out e
   have HRM : Hid (¬ r = gm) := fun e => HX.out.names.not_box HX.out.box e
   obtain ⟨xa, xc, hfv⟩ := ownsRow_shape HX.out.fns
   rw [← HNF.out] at hfv
   have HSM : Hid (∀ w', Kept (fun q => q = gm) w3 w' → w'.cell? ⟨r, 4, none⟩ = some (.map (some gm)) ∧ w'.cell? ⟨g, o + 1, none⟩ = some (.string p.s) ∧ w'.cell? ⟨r, 2, none⟩ = some (.slice xa nf xc)) := fun w' hw =>
    ⟨hw.cell (cell_block _ _ 4 _ _ _ HX3.out.box) HRM.out, hw.cell ((HPP.out.kept HK3.out id) 0 _ rfl 1 _ rfl) HGM.out, by rw [← hfv]; exact hw.cell (cell_block _ _ 2 _ _ _ HX3.out.box) HRM.out⟩
   clear hfv
   refine wp_region_held_drew (S := fun w' => Kept (fun q => q = gm) w3 w') (by kernel_rfl) ((Kept.refl _ _).drew) (fun hHeld => ?_)
   generalize w3.drew = wd at *
   have HN : Hid (Calls Tryz.prog 79 #[.map (some gm), .string p.s, .int .i64 (nf : Int)] wd fun e w' => e = .returned (.bool true) ∧ Kept (fun q => q = gm) wd w' ∧ MapIs w' gm (nmL 0 R.fs ++ [(p.s, (nf : Int))])) := name_newG gm p.s nf _ (HX3.out.names.same hKwd) HNM.out
   iterate 14
    refine tkn (v := ?_) 0 rfl ?_ ?_; rotate_left 1
    ·intro w hSw; obtain ⟨s0, s1, s2⟩ := HSM.out w hSw; go_simp; try with_reducible rfl
    try simp only [Act.put, tdy]
   refine rdy 14 rfl (fun K hK => ?_)
   go_simp
   refine HN.out.mono ?_
   rintro e w4 ⟨rfl, hk4, hm4⟩
   refine hK.out _ _ ((hKwd.mono (T := fun q => q = gm) (fun _ _ f => f.elim)).trans hk4) (fun hHeld => ?_)
   clear hK K
   try simp only [Act.put, tdy]
   iterate 1
    refine tkn (v := ?_) 15 rfl ?_ ?_; rotate_left 1
    ·intro w hSw; go_simp; try with_reducible rfl
    try simp only [Act.put, tdy]
   refine rdy 16 rfl (fun K hK => ?_)
   go_simp
   refine hK.out _ _ hHeld (fun hHeld => ?_)
   clear hK K
   try simp only [Act.put, tdy]
   refine wpAnyH_done (by kernel_rfl) ?_ _
   obtain ⟨hZ4, hO4⟩ := (HX3.out.same hKwd).toRdZ.name hk4 hm4
   have HZ4 := hid_of hZ4
   have HO4 := hid_of ((Kept.othG (HK3.out.trans hKwd)).trans hO4)
   have HGL : Hid (GM.length = R.fs.length) := HX.out.glen
   have HP4 := hid_of ((HPP.out.kept (HK3.out.trans hKwd) id).kept hk4 (fun e => HGM.out e))
   have HGG4 := hid_of (hO4 g cs 125 (box_kept (HK3.out.trans hKwd) HGG.out id) (.inr rfl))
   have HWK : Hid (∀ x ∈ R.ws, x.fn < GM.length) := fun x hx => by
    have := HWW.out x hx
    have := HX.out.glen
    omega
   clear hHeld hKwd hk4 hm4 hZ4 hO4 HN HSM HX3 HX HK3 HPP HGG HNM HGM
   go_upto_region 7 with fail
   have hKwe : Kept (fun _ => False) w4 w4.drew := (Kept.refl _ _).drew
   have HGR : Hid (¬ g = r) := box_ne HGG4.out HZ4.out.box (by decide)
   have HGF : Hid (fv.ownBlock ≠ some g) := fun e => own_box2 HZ4.out.fns HGG4.out (by decide) e
   have HSM : Hid (∀ w', Kept (fun q => fv.ownBlock = some q ∨ q = r) w4 w' → w'.cell? ⟨g, o + 6, none⟩ = some (.int .i64 q1.n) ∧ w'.cell? ⟨g, o + 10, none⟩ = some (.int .i64 q2.n) ∧ w'.cell? ⟨g, o + 14, none⟩ = some (.int .i64 q3.n)) := fun w' hw =>
    have hn : ¬ (fv.ownBlock = some g ∨ g = r) := fun e => e.elim HGF.out HGR.out
    ⟨hw.cell (HP4.out 1 _ rfl 2 _ rfl) hn, hw.cell (HP4.out 2 _ rfl 2 _ rfl) hn, hw.cell (HP4.out 3 _ rfl 2 _ rfl) hn⟩
   refine wp_region_held_drew (S := fun w' => Kept (fun q => fv.ownBlock = some q ∨ q = r) w4 w') (by kernel_rfl) ((Kept.refl _ _).drew) (fun hHeld => ?_)
   generalize w4.drew = we at *
   have hZe := HZ4.out.same hKwe
   obtain ⟨fa, fm, fc, w5, hr5, hk5, ho5, hb5, hz5, ho6⟩ := hZe.pushF HGL.out ⟨p.s, q1.n, q2.n, q3.n, [], []⟩ rfl (by have := HLL.out; omega)
   have l0 := cell_block _ _ 2 _ _ _ hZe.box
   have HKS5 := hid_of ((hKwe.mono (T := fun q => fv.ownBlock = some q ∨ q = r) (fun _ _ f => f.elim)).trans (hk5.mono (fun _ _ e => .inl e)))
   have HKS6 := hid_of (HKS5.out.setCell (p := ⟨r, 2, none⟩) (.inr (.inr rfl)) (.slice fa fm fc))
   have HG1 := hid_of (And.intro (cell_block _ _ 2 _ _ _ hb5) (frozen_block _ _ 2 _ _ hb5))
   have HZ6 := hid_of hz5
   have HO6 := hid_of (HO4.out.trans ((Kept.othG hKwe).trans (ho5.trans ho6)))
   have HR := hid_of hr5
   obtain ⟨xa, xc, hfv⟩ := ownsRow_shape hZe.fns
   rw [← HNF.out] at hfv
   subst hfv
   clear hr5 hk5 ho5 hb5 hz5 ho6 hZe hKwe
   iterate 5
    refine tkn (v := ?_) 0 rfl ?_ ?_; rotate_left 1
    ·intro w hSw; go_simp; try with_reducible rfl
    try simp only [Act.put, tdy]
   iterate 13
    refine tkn (v := ?_) 6 rfl ?_ ?_; rotate_left 1
    ·intro w hSw; obtain ⟨s0, s1, s2⟩ := HSM.out w hSw; go_simp; try with_reducible rfl
    try simp only [Act.put, tdy]
   refine (fun (hfin : ?G) => ?main) ?fin
   case main =>
    refine wpAnyH_ready (rs := [5, 19]) (by kernel_rfl) (by simp) ?_
    refine AllReadyH.cons rfl (fun K hK => ?_) (AllReadyH.cons rfl (fun K hK => ?_) AllReadyH.nil)
    ·have l1 := l0
     go_simp
     refine hK.out _ _ hHeld (fun hHeld => ?_)
     clear hK K
     try simp only [Act.put, tdy]
     clear l1
     refine rdy 19 rfl (fun K hK => ?_)
     go_simp
     refine hK.out _ _ (hHeld.alloc _) (fun hHeld => ?_)
     clear hK K
     try simp only [Act.put, tdy]
     refine rdy 20 rfl (fun K hK => ?_)
     refine step_app rfl (.tmp 35) (.tmp 49) 23 23 rfl _ _ rfl rfl (.slice fa fm fc) w5 HR.out ?_
     refine hK.out _ _ HKS5.out (fun hHeld => ?_)
     clear hK K
     try simp only [Act.put, tdy]
     iterate 3
      refine tkn (v := ?_) 21 rfl ?_ ?_; rotate_left 1
      ·intro w hSw; go_simp; try with_reducible rfl
      try simp only [Act.put, tdy]
     obtain ⟨g1, gf1⟩ := HG1.out
     refine rdy 24 rfl (fun K hK => ?_)
     go_simp
     refine hK.out _ _ HKS6.out (fun hHeld => ?_)
     clear hK K
     try simp only [Act.put, tdy]
     refine wpAnyH_done (by kernel_rfl) ?_ _
     exact hfin
    ·go_simp
     refine hK.out _ _ (hHeld.alloc _) (fun hHeld => ?_)
     clear hK K
     try simp only [Act.put, tdy]
     have l1 : (we.alloc (.cells #[.int .i64 q1.n, .int .i64 q2.n, .int .i64 q3.n, .slice none 0 0] 51)).cell? ⟨r, 2, none⟩ = some (.slice xa nf xc) := ((Kept.refl (fun _ => False) we).alloc _).cell l0 id
     refine rdy 5 rfl (fun K hK => ?_)
     go_simp
     refine hK.out _ _ hHeld (fun hHeld => ?_)
     clear l1
     clear hK K
     try simp only [Act.put, tdy]
     refine rdy 20 rfl (fun K hK => ?_)
     refine step_app rfl (.tmp 35) (.tmp 49) 23 23 rfl _ _ rfl rfl (.slice fa fm fc) w5 HR.out ?_
     refine hK.out _ _ HKS5.out (fun hHeld => ?_)
     clear hK K
     try simp only [Act.put, tdy]
     iterate 3
      refine tkn (v := ?_) 21 rfl ?_ ?_; rotate_left 1
      ·intro w hSw; go_simp; try with_reducible rfl
      try simp only [Act.put, tdy]
     obtain ⟨g1, gf1⟩ := HG1.out
     refine rdy 24 rfl (fun K hK => ?_)
     go_simp
     refine hK.out _ _ HKS6.out (fun hHeld => ?_)
     clear hK K
     try simp only [Act.put, tdy]
     refine wpAnyH_done (by kernel_rfl) ?_ _
     exact hfin
   clear l0 HSM HKS5 HKS6 HG1 HR hHeld HZ4 HP4 HGG4 HGF HGR HO4
   generalize w5.setCell ⟨r, 2, none⟩ (.slice fa fm fc) = w6 at *
   have hmm := @run_makeMap Tryz.prog
   have hWK : ∀ x ∈ R.ws, x.fn < GM.length := HWK.out
   obtain ⟨la, lm, lc, w7, hr7, ho7, hb7, hz7, ho8⟩ := HZ6.out.pushM R.fs ⟨p.s, q1.n, q2.n, q3.n, [], []⟩ rfl HGL.out rfl (by have := HLL.out; simp only [List.length_append, List.length_cons, List.length_nil]; omega) hWK
   have H : Hid (RdG w0 (w7.setCell ⟨r, 5, none⟩ (.slice la lm lc)) r ⟨R.mem, R.sized, R.data, R.fs ++ [⟨p.s, q1.n, q2.n, q3.n, [], []⟩], R.ws⟩) := by
    refine ⟨dv, .slice fa fm fc, .slice la lm lc, wv, gm, CV ++ [.slice none 0 0], GM ++ [w6.heap.size], ⟨?_, ?_⟩⟩
    ·show RdZ w0 _ r _ (nmL 0 (R.fs ++ [⟨p.s, q1.n, q2.n, q3.n, [], []⟩])) _ _ _ _ _ _ _
     rw [nmL_snoc, Nat.zero_add, ← HNF.out]
     exact hz7
    ·have := HGL.out
     simp only [List.length_append, List.length_cons, List.length_nil]
     omega
   have HO8 := hid_of (HO6.out.trans (ho7.trans ho8))
   have HKF := hid_of hz7.kept
   obtain ⟨ya, yc, hlv⟩ := ownsRow_shape HZ6.out.mps
   obtain ⟨ng, hng⟩ := nmd (GM.length)
   rw [← hng] at hlv
   subst hlv
   have q0 := cell_block _ _ 5 _ _ _ HZ6.out.box
   have z1 := cell_block _ _ 5 _ _ _ hb7
   have z2 := frozen_block _ _ 5 _ _ hb7
   have HR7 := hid_of hr7
   clear hr7 ho7 hb7 hz7 ho8 HZ6 HO6 hng hWK HWK HGL
   go_wp2_with (at_builtin; refine wp_app2 rfl (.tmp 58) (.tmp 60) 90 90 rfl _ _ rfl rfl _ w7 HR7.out ?_)
   go_ret
   exact ⟨HKF.out, .inl ⟨_, rfl, rfl, H.out, HO8.out⟩⟩
 ·rw [funP_no R ps hk]
  rw [decide_eq_false hk] at HF
  clear h hba hka hk hP hg hn
  go_enter Tryz.func57, Tryz.ntmps57
  go_wp2_with fail
  refine HF.out.mono ?_
  rintro e w2 ⟨rfl, hk2⟩
  have HK2 := hid_of (HKA.out.trans hk2)
  clear hk2 HF
  go_wp2
  go_ret
  exact ⟨HKW.out.trans HK2.out, .inr ⟨_, rfl, rfl⟩⟩
end Go.Proofs.YtpfmhibdmehlcaaGreatDoor

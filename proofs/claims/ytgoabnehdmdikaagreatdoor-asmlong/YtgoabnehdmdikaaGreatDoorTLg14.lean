import Derived.Test.YtgoabnehdmdikaaGreatDoorTLg13
set_option linter.unusedVariables false
set_option linter.unusedSimpArgs false
set_option maxRecDepth 100000
set_option maxHeartbeats 64000000
namespace Go.Proofs.YtgoabnehdmdikaaGreatDoor
open Go.RowKit
variable {w0 w : World} {r gm : Nat} {R : Rdr} {NL : List (ByteArray × Int)} {dv fv lv wv : Value} {CV : List Value} {GM : List Nat}
theorem Ztz (R : Rdr) (ps : List Pf) (h : ps.map Pf.k ≠ [0, 1, 1, 1]) : Zco R ps = .bad 141 := by
 unfold Zco
 split
 ·exact if_pos h
 ·rfl
theorem Zfj (R : Rdr) (p q1 q2 q3 : Pf) : Zco R [p, q1, q2, q3] = if [p.k, q1.k, q2.k, q3.k] ≠ [0, 1, 1, 1] then .bad 141 else if (p.f || (q1.f || (q2.f || q3.f))) = true then .bad 143 else if (lkA (nmL 0 R.fs) p.s).isSome = true then .bad 142 else .good ⟨R.mem, R.sized, R.data, R.fs ++ [⟨p.s, q1.n, q2.n, q3.n, [], []⟩], R.ws⟩ := rfl
theorem Zob (g o n c : Nat) (ps : List Pf) (cs : Array Value) (h : RdX w0 w r R dv fv lv wv gm CV GM) (hP : FsAt w g o ps) (hg : w.heap[g]? = some (.cells cs 130 (0, 0))) (hn : n = ps.length) (hl : R.fs.length ≤ 80000) (hnl : n ≤ 90000) (hW : ∀ x ∈ R.ws, x.fn < R.fs.length) :
  Calls Tryz.prog 57 #[.pointer (some ⟨r, 0, none⟩), .slice (some ⟨g, o, none⟩) n c] w (MethR w0 w r (Zco R ps)) := by
 have hka : Kept nF w (w.alloc (.cells #[.int .i64 0, .int .i64 1, .int .i64 1, .int .i64 1] 3)) := (Kept.refl _ _).alloc _
 have hba := heap_alloc_new w (.cells #[.int .i64 0, .int .i64 1, .int .i64 1, .int .i64 1] 3)
 have HF := Za (Zgd g o n c w.heap.size 4 4 ps [0, 1, 1, 1] (w.alloc (.cells #[.int .i64 0, .int .i64 1, .int .i64 1, .int .i64 1] 3)) (hP.kept hka id) (fun i x hx => by
  rw [Zb _ _ i _ _ _ hba]
  rcases i with _ | _ | _ | _ | i <;> simp at hx ⊢ <;> exact hx) hn rfl hnl (by omega))
 have HKA := Za hka
 have HKW := Za h.kept
 by_cases hk : ps.map Pf.k = [0, 1, 1, 1]
 ·rw [decide_eq_true hk] at HF
  obtain ⟨p, q1, q2, q3, rfl⟩ : ∃ p q1 q2 q3, ps = [p, q1, q2, q3] := by
   have hlen := congrArg List.length hk
   simp only [List.length_map, List.length_cons, List.length_nil] at hlen
   match ps, hlen with
   | [p, q1, q2, q3], _ => exact ⟨p, q1, q2, q3, rfl⟩
  have HTF : Hid (∀ w1, Kept nF w w1 → Calls Tryz.prog 85 #[.slice (some ⟨g, o, none⟩) n c] w1 fun e w' => e = .returned (.bool (([p, q1, q2, q3] : List Pf).any Pf.f)) ∧ Kept nF w1 w') := fun w1 hk1 => Zh3 g o n c [p, q1, q2, q3] w1 (hP.kept hk1 id) hn hnl
  have hany : ([p, q1, q2, q3] : List Pf).any Pf.f = (p.f || (q1.f || (q2.f || q3.f))) := by simp
  have hk4 : [p.k, q1.k, q2.k, q3.k] = [0, 1, 1, 1] := hk
  by_cases hfar : ([p, q1, q2, q3] : List Pf).any Pf.f = true
  ·have HE : Zco R [p, q1, q2, q3] = .bad 143 := by
    rw [Zfj, if_neg (not_not_intro hk4), if_pos (by rw [← hany]; exact hfar)]
   rw [HE]
   rw [hfar] at HTF
   clear h hba hka HE hk hk4 hfar hany hP hg hn
   go_enter Tryz.func57, Tryz.ntmps57
   go_wp2_with fail
   refine HF.out.mono ?_
   rintro e w2 ⟨rfl, hk2⟩
   have HK2 := Za (HKA.out.trans hk2)
   clear hk2 HF
   go_wp2_with fail
   refine (HTF.out _ HK2.out).mono ?_
   rintro e w3 ⟨rfl, hk3⟩
   have HK3 := Za (HK2.out.trans hk3)
   clear hk3 HK2
   go_wp2
   go_ret
   exact ⟨HKW.out.trans HK3.out, .inr ⟨_, rfl, rfl⟩⟩
  have hfar' : ([p, q1, q2, q3] : List Pf).any Pf.f = false := by simpa using hfar
  rw [hfar'] at HTF
  have HX := Za h
  have hn1 : n = 4 := hn
  have HPP := Za hP
  have HGG := Za hg
  have HLL : Hid (R.fs.length ≤ 80000) := hl
  have HWW := Za hW
  obtain ⟨nf, hnf⟩ := nmd (R.fs.length)
  have HNF := Za hnf
  clear hnf
  subst hn1
  clear hn hP hg hl hnl hW
  by_cases hnm : (lkA (nmL 0 R.fs) p.s).isSome = true
  ·have HE : Zco R [p, q1, q2, q3] = .bad 142 := by
    rw [Zfj, if_neg (not_not_intro hk4), if_neg (by rw [← hany]; exact hfar), if_pos hnm]
   rw [HE]
   have HNM := Za hnm
   clear h hba hka HE hk hk4 hfar hfar' hany hnm
   go_enter Tryz.func57, Tryz.ntmps57
   go_wp2_with fail
   refine HF.out.mono ?_
   rintro e w2 ⟨rfl, hk2⟩
   have HK2 := Za (HKA.out.trans hk2)
   clear hk2 HF
   go_wp2_with fail
   refine (HTF.out _ HK2.out).mono ?_
   rintro e w3 ⟨rfl, hk3⟩
   have HK3 := Za (HK2.out.trans hk3)
   clear hk3 HK2 HTF
   go_upto_region 5 with fail
   have HX3 := Za (HX.out.same HK3.out)
   have hKwd : Kept nF w3 w3.drew := (Kept.refl _ _).drew
   have HGM : Hid (¬ g = gm) := fun e => HX.out.names.not_box HGG.out e
   have HRM : Hid (¬ r = gm) := fun e => HX.out.names.not_box HX.out.box e
   obtain ⟨xa, xc, hfv⟩ := Zd HX.out.fns
   rw [← HNF.out] at hfv
   have HSM : Hid (∀ w', Kept (fun q => q = gm) w3 w' → w'.cell? ⟨r, 4, none⟩ = some (.map (some gm)) ∧ w'.cell? ⟨g, o + 1, none⟩ = some (.string p.s) ∧ w'.cell? ⟨r, 2, none⟩ = some (.slice xa nf xc)) := fun w' hw =>
    ⟨hw.cell (Zb _ _ 4 _ _ _ HX3.out.box) HRM.out, hw.cell ((HPP.out.kept HK3.out id) 0 _ rfl 1 _ rfl) HGM.out, by rw [← hfv]; exact hw.cell (Zb _ _ 2 _ _ _ HX3.out.box) HRM.out⟩
   clear hfv
   refine wp_region_held_drew (S := fun w' => Kept (fun q => q = gm) w3 w') (by kernel_rfl) ((Kept.refl _ _).drew) (fun qh => ?_)
   generalize w3.drew = wd at *
   have HN : Hid (Calls Tryz.prog 88 #[.map (some gm), .string p.s, .int .i64 (nf : Int)] wd fun e w' => e = .returned (.bool false) ∧ w' = wd) := Zjt gm p.s nf _ (HX3.out.names.same hKwd) HNM.out
   iterate 14
    refine tkn (v := ?_) 0 rfl ?_ ?_; rotate_left
    ·intro w hSw; obtain ⟨s0, s1, s2⟩ := HSM.out w hSw; go_simp; try with_reducible rfl
    try simp only [Act.put, tdy]
   refine rdy 14 rfl (fun K hK => ?_)
   go_simp
   refine HN.out.mono ?_
   rintro e w4 ⟨rfl, hw⟩
   have hw := hw.symm
   subst hw
   refine hK.out _ _ qh (fun qh => ?_)
   clear hK K
   try simp only [Act.put, tdy]
   iterate 1
    refine tkn (v := ?_) 15 rfl ?_ ?_; rotate_left
    ·intro w hSw; go_simp; try with_reducible rfl
    try simp only [Act.put, tdy]
   refine rdy 16 rfl (fun K hK => ?_)
   go_simp
   refine hK.out _ _ qh (fun qh => ?_)
   clear hK K
   try simp only [Act.put, tdy]
   refine wpAnyH_done (by kernel_rfl) ?_ _
   go_wp2
   go_ret
   exact ⟨(HX3.out.same hKwd).kept, .inr ⟨_, rfl, rfl⟩⟩
  ·have HE : Zco R [p, q1, q2, q3] = .good ⟨R.mem, R.sized, R.data, R.fs ++ [⟨p.s, q1.n, q2.n, q3.n, [], []⟩], R.ws⟩ := by
    rw [Zfj, if_neg (not_not_intro hk4), if_neg (by rw [← hany]; exact hfar), if_neg hnm]
   rw [HE]
   have HNM : Hid (lkA (nmL 0 R.fs) p.s = none) := by
    show lkA _ _ = none
    simpa using hnm
   clear h hba hka HE hk hk4 hfar hfar' hany hnm
   go_enter Tryz.func57, Tryz.ntmps57
   go_wp2_with fail
   refine HF.out.mono ?_
   rintro e w2 ⟨rfl, hk2⟩
   have HK2 := Za (HKA.out.trans hk2)
   clear hk2 HF
   go_wp2_with fail
   refine (HTF.out _ HK2.out).mono ?_
   rintro e w3 ⟨rfl, hk3⟩
   have HK3 := Za (HK2.out.trans hk3)
   clear hk3 HK2 HTF
   go_upto_region 5 with fail
   have HX3 := Za (HX.out.same HK3.out)
   have hKwd : Kept nF w3 w3.drew := (Kept.refl _ _).drew
   have HGM : Hid (¬ g = gm) := fun e => HX.out.names.not_box HGG.out e
   have HRM : Hid (¬ r = gm) := fun e => HX.out.names.not_box HX.out.box e
   obtain ⟨xa, xc, hfv⟩ := Zd HX.out.fns
   rw [← HNF.out] at hfv
   have HSM : Hid (∀ w', Kept (fun q => q = gm) w3 w' → w'.cell? ⟨r, 4, none⟩ = some (.map (some gm)) ∧ w'.cell? ⟨g, o + 1, none⟩ = some (.string p.s) ∧ w'.cell? ⟨r, 2, none⟩ = some (.slice xa nf xc)) := fun w' hw =>
    ⟨hw.cell (Zb _ _ 4 _ _ _ HX3.out.box) HRM.out, hw.cell ((HPP.out.kept HK3.out id) 0 _ rfl 1 _ rfl) HGM.out, by rw [← hfv]; exact hw.cell (Zb _ _ 2 _ _ _ HX3.out.box) HRM.out⟩
   clear hfv
   refine wp_region_held_drew (S := fun w' => Kept (fun q => q = gm) w3 w') (by kernel_rfl) ((Kept.refl _ _).drew) (fun qh => ?_)
   generalize w3.drew = wd at *
   have HN : Hid (Calls Tryz.prog 88 #[.map (some gm), .string p.s, .int .i64 (nf : Int)] wd fun e w' => e = .returned (.bool true) ∧ Kept (fun q => q = gm) wd w' ∧ MapIs w' gm (nmL 0 R.fs ++ [(p.s, (nf : Int))])) := Zia gm p.s nf _ (HX3.out.names.same hKwd) HNM.out
   iterate 14
    refine tkn (v := ?_) 0 rfl ?_ ?_; rotate_left
    ·intro w hSw; obtain ⟨s0, s1, s2⟩ := HSM.out w hSw; go_simp; try with_reducible rfl
    try simp only [Act.put, tdy]
   refine rdy 14 rfl (fun K hK => ?_)
   go_simp
   refine HN.out.mono ?_
   rintro e w4 ⟨rfl, hk4, hm4⟩
   refine hK.out _ _ ((hKwd.mono (T := fun q => q = gm) (fun _ _ f => f.elim)).trans hk4) (fun qh => ?_)
   clear hK K
   try simp only [Act.put, tdy]
   iterate 1
    refine tkn (v := ?_) 15 rfl ?_ ?_; rotate_left
    ·intro w hSw; go_simp; try with_reducible rfl
    try simp only [Act.put, tdy]
   refine rdy 16 rfl (fun K hK => ?_)
   go_simp
   refine hK.out _ _ qh (fun qh => ?_)
   clear hK K
   try simp only [Act.put, tdy]
   refine wpAnyH_done (by kernel_rfl) ?_ _
   obtain ⟨hZ4, hO4⟩ := (HX3.out.same hKwd).toRdZ.name hk4 hm4
   have HZ4 := Za hZ4
   have HO4 := Za ((Kept.othG (HK3.out.trans hKwd)).trans hO4)
   have HGL : Hid (GM.length = R.fs.length) := HX.out.glen
   have HP4 := Za ((HPP.out.kept (HK3.out.trans hKwd) id).kept hk4 (fun e => HGM.out e))
   have HGG4 := Za (hO4 g cs 130 (Zc (HK3.out.trans hKwd) HGG.out id) (.inr rfl))
   have HWK : Hid (∀ x ∈ R.ws, x.fn < GM.length) := fun x hx => by
    have := HWW.out x hx
    have := HX.out.glen
    omega
   clear qh hKwd hk4 hm4 hZ4 hO4 HN HSM HX3 HX HK3 HPP HGG HNM HGM
   go_upto_region 7 with fail
   have hKwe : Kept nF w4 w4.drew := (Kept.refl _ _).drew
   have HGR : Hid (¬ g = r) := Xi HGG4.out HZ4.out.box (by decide)
   have HGF : Hid (fv.ownBlock ≠ some g) := fun e => Zs HZ4.out.fns HGG4.out (by decide) e
   have HSM : Hid (∀ w', Kept (fun q => fv.ownBlock = some q ∨ q = r) w4 w' → w'.cell? ⟨g, o + 6, none⟩ = some (.int .i64 q1.n) ∧ w'.cell? ⟨g, o + 10, none⟩ = some (.int .i64 q2.n) ∧ w'.cell? ⟨g, o + 14, none⟩ = some (.int .i64 q3.n)) := fun w' hw =>
    have hn : ¬ (fv.ownBlock = some g ∨ g = r) := fun e => e.elim HGF.out HGR.out
    ⟨hw.cell (HP4.out 1 _ rfl 2 _ rfl) hn, hw.cell (HP4.out 2 _ rfl 2 _ rfl) hn, hw.cell (HP4.out 3 _ rfl 2 _ rfl) hn⟩
   refine wp_region_held_drew (S := fun w' => Kept (fun q => fv.ownBlock = some q ∨ q = r) w4 w') (by kernel_rfl) ((Kept.refl _ _).drew) (fun qh => ?_)
   generalize w4.drew = we at *
   have hZe := HZ4.out.same hKwe
   obtain ⟨fa, fm, fc, w5, hr5, hk5, ho5, hb5, hz5, ho6⟩ := hZe.pushF HGL.out ⟨p.s, q1.n, q2.n, q3.n, [], []⟩ rfl (by have := HLL.out; omega)
   have l0 := Zb _ _ 2 _ _ _ hZe.box
   have HKS5 := Za ((hKwe.mono (T := fun q => fv.ownBlock = some q ∨ q = r) (fun _ _ f => f.elim)).trans (hk5.mono (fun _ _ e => .inl e)))
   have HKS6 := Za (HKS5.out.setCell (p := ⟨r, 2, none⟩) (.inr (.inr rfl)) (.slice fa fm fc))
   have HG1 := Za (And.intro (Zb _ _ 2 _ _ _ hb5) (Ze _ _ 2 _ _ hb5))
   have HZ6 := Za hz5
   have HO6 := Za (HO4.out.trans ((Kept.othG hKwe).trans (ho5.trans ho6)))
   have HR := Za hr5
   obtain ⟨xa, xc, hfv⟩ := Zd hZe.fns
   rw [← HNF.out] at hfv
   subst hfv
   clear hr5 hk5 ho5 hb5 hz5 ho6 hZe hKwe
   iterate 5
    refine tkn (v := ?_) 0 rfl ?_ ?_; rotate_left
    ·intro w hSw; go_simp; try with_reducible rfl
    try simp only [Act.put, tdy]
   iterate 13
    refine tkn (v := ?_) 6 rfl ?_ ?_; rotate_left
    ·intro w hSw; obtain ⟨s0, s1, s2⟩ := HSM.out w hSw; go_simp; try with_reducible rfl
    try simp only [Act.put, tdy]
   refine (fun (hfin : ?G) => ?main) ?fin
   case main =>
    refine wpAnyH_ready (rs := [5, 19]) (by kernel_rfl) (by simp) ?_
    refine AllReadyH.cons rfl (fun K hK => ?_) (AllReadyH.cons rfl (fun K hK => ?_) AllReadyH.nil)
    ·have l1 := l0
     go_simp
     refine hK.out _ _ qh (fun qh => ?_)
     clear hK K
     try simp only [Act.put, tdy]
     clear l1
     refine rdy 19 rfl (fun K hK => ?_)
     go_simp
     refine hK.out _ _ (qh.alloc _) (fun qh => ?_)
     clear hK K
     try simp only [Act.put, tdy]
     refine rdy 20 rfl (fun K hK => ?_)
     refine Zm rfl (.tmp 35) (.tmp 49) 24 24 rfl _ _ rfl rfl (.slice fa fm fc) w5 HR.out ?_
     refine hK.out _ _ HKS5.out (fun qh => ?_)
     clear hK K
     try simp only [Act.put, tdy]
     iterate 3
      refine tkn (v := ?_) 21 rfl ?_ ?_; rotate_left
      ·intro w hSw; go_simp; try with_reducible rfl
      try simp only [Act.put, tdy]
     obtain ⟨g1, gf1⟩ := HG1.out
     refine rdy 24 rfl (fun K hK => ?_)
     go_simp
     refine hK.out _ _ HKS6.out (fun qh => ?_)
     clear hK K
     try simp only [Act.put, tdy]
     refine wpAnyH_done (by kernel_rfl) ?_ _
     exact hfin
    ·go_simp
     refine hK.out _ _ (qh.alloc _) (fun qh => ?_)
     clear hK K
     try simp only [Act.put, tdy]
     have l1 : (we.alloc (.cells #[.int .i64 q1.n, .int .i64 q2.n, .int .i64 q3.n, .slice none 0 0] 78)).cell? ⟨r, 2, none⟩ = some (.slice xa nf xc) := ((Kept.refl nF we).alloc _).cell l0 id
     refine rdy 5 rfl (fun K hK => ?_)
     go_simp
     refine hK.out _ _ qh (fun qh => ?_)
     clear l1
     clear hK K
     try simp only [Act.put, tdy]
     refine rdy 20 rfl (fun K hK => ?_)
     refine Zm rfl (.tmp 35) (.tmp 49) 24 24 rfl _ _ rfl rfl (.slice fa fm fc) w5 HR.out ?_
     refine hK.out _ _ HKS5.out (fun qh => ?_)
     clear hK K
     try simp only [Act.put, tdy]
     iterate 3
      refine tkn (v := ?_) 21 rfl ?_ ?_; rotate_left
      ·intro w hSw; go_simp; try with_reducible rfl
      try simp only [Act.put, tdy]
     obtain ⟨g1, gf1⟩ := HG1.out
     refine rdy 24 rfl (fun K hK => ?_)
     go_simp
     refine hK.out _ _ HKS6.out (fun qh => ?_)
     clear hK K
     try simp only [Act.put, tdy]
     refine wpAnyH_done (by kernel_rfl) ?_ _
     exact hfin
   clear l0 HSM HKS5 HKS6 HG1 HR qh HZ4 HP4 HGG4 HGF HGR HO4
   generalize w5.setCell ⟨r, 2, none⟩ (.slice fa fm fc) = w6 at *
   have hmm := @run_makeMap Tryz.prog
   have hWK : ∀ x ∈ R.ws, x.fn < GM.length := HWK.out
   obtain ⟨la, lm, lc, w7, hr7, ho7, hb7, hz7, ho8⟩ := HZ6.out.pushM R.fs ⟨p.s, q1.n, q2.n, q3.n, [], []⟩ rfl HGL.out rfl (by have := HLL.out; simp only [List.length_append, List.length_cons, List.length_nil]; omega) hWK
   have H : Hid (RdG w0 (w7.setCell ⟨r, 5, none⟩ (.slice la lm lc)) r ⟨R.mem, R.sized, R.data, R.fs ++ [⟨p.s, q1.n, q2.n, q3.n, [], []⟩], R.ws⟩) := by
    refine ⟨dv, .slice fa fm fc, .slice la lm lc, wv, gm, CV ++ [.slice none 0 0], GM ++ [w6.heap.size], ⟨?_, ?_⟩⟩
    ·show RdZ w0 _ r _ (nmL 0 (R.fs ++ [⟨p.s, q1.n, q2.n, q3.n, [], []⟩])) _ _ _ _ _ _ _
     rw [Zjq, Nat.zero_add, ← HNF.out]
     exact hz7
    ·have := HGL.out
     simp only [List.length_append, List.length_cons, List.length_nil]
     omega
   have HO8 := Za (HO6.out.trans (ho7.trans ho8))
   have HKF := Za hz7.kept
   obtain ⟨ya, yc, hlv⟩ := Zd HZ6.out.mps
   obtain ⟨ng, hng⟩ := nmd (GM.length)
   rw [← hng] at hlv
   subst hlv
   have q0 := Zb _ _ 5 _ _ _ HZ6.out.box
   have z1 := Zb _ _ 5 _ _ _ hb7
   have z2 := Ze _ _ 5 _ _ hb7
   have HR7 := Za hr7
   clear hr7 ho7 hb7 hz7 ho8 HZ6 HO6 hng hWK HWK HGL
   go_wp2_with (at_builtin; refine Zr rfl (.tmp 58) (.tmp 60) 96 96 rfl _ _ rfl rfl _ w7 HR7.out ?_)
   go_ret
   exact ⟨HKF.out, .inl ⟨_, rfl, rfl, H.out, HO8.out⟩⟩
 ·rw [Ztz R ps hk]
  rw [decide_eq_false hk] at HF
  clear h hba hka hk hP hg hn
  go_enter Tryz.func57, Tryz.ntmps57
  go_wp2_with fail
  refine HF.out.mono ?_
  rintro e w2 ⟨rfl, hk2⟩
  have HK2 := Za (HKA.out.trans hk2)
  clear hk2 HF
  go_wp2
  go_ret
  exact ⟨HKW.out.trans HK2.out, .inr ⟨_, rfl, rfl⟩⟩
end Go.Proofs.YtgoabnehdmdikaaGreatDoor
namespace Go.Proofs.YtgoabnehdmdikaaGreatDoor
open Go.RowKit
variable {w0 w : World} {r gm : Nat} {R : Rdr} {NL : List (ByteArray × Int)} {dv fv lv wv : Value} {CV : List Value} {GM : List Nat}
def OthA (w w' : World) : Prop := ∀ (q : Nat) (cs : Array Value) (t : TypeId) (f : Nat × Nat), w.heap[q]? = some (.cells cs t f) → w'.heap[q]? = some (.cells cs t f)
theorem OthA.trans {a b c : World} (h : OthA a b) (k : OthA b c) : OthA a c := fun q cs t f hq => k q cs t f (h q cs t f hq)
theorem OthA.refl (w : World) : OthA w w := fun _ _ _ _ h => h
theorem OthA.othG {w w' : World} (h : OthA w w') : OthG w w' := fun q cs t hq _ => h q cs t (0, 0) hq
theorem Kept.othA {w w' : World} (h : Kept nF w w') : OthA w w' := fun q cs t f hq => Zc h hq id
theorem MapIs.othA {w w' : World} {g : Nat} {L : List (ByteArray × Int)} (h : MapIs w g L) (hk : Kept (fun q => q = g) w w') : OthA w w' := fun q cs t' f hq => h.box hk hq
theorem Yw {w : World} {B e s : Nat} {v : Value} {n : Nat} {xs : List Value} (h : w.ownsRow B e s v n xs) (hn : 0 < n) : ∃ g c cs, v = .slice (some ⟨g, 0, none⟩) n c ∧ n ≤ c ∧ w.heap[g]? = some (.cells cs e (0, 0)) := by
 rcases h.2 with ⟨rfl, h0⟩ | ⟨g, cap, cur, rfl, _, hgg, hnc, _⟩
 ·omega
 ·exact ⟨g, cap, cur, rfl, hnc, hgg⟩
theorem Zcv {α : Type} {l : List α} {n : Nat} (h : l.length = n + 1) : ∃ l' x, l = l' ++ [x] ∧ l'.length = n := by
 have hne : l ≠ [] := fun e => by rw [e] at h; simp at h
 refine ⟨l.dropLast, l.getLast hne, (List.dropLast_concat_getLast hne).symm, ?_⟩
 rw [List.length_dropLast, h]
 rfl
theorem RdX.parts (h : RdX w0 w r R dv fv lv wv gm CV GM) {gs : List Fnc} {f : Fnc} (hf : R.fs = gs ++ [f]) : ∃ cs cv ms gk, CV = cs ++ [cv] ∧ GM = ms ++ [gk] ∧ cs.length = gs.length ∧ ms.length = gs.length := by
 have hl : R.fs.length = gs.length + 1 := by rw [hf]; simp
 obtain ⟨cs, cv, h1, h2⟩ := Zcv (h.toRdZ.clen.trans hl)
 obtain ⟨ms, gk, h3, h4⟩ := Zcv (h.glen.trans hl)
 exact ⟨cs, cv, ms, gk, h1, h3, h2, h4⟩
theorem Zl {α : Type} (l : List α) (x : α) : (l ++ [x])[l.length]? = some x := by simp
theorem RdX.cells (h : RdX w0 w r R dv fv lv wv gm CV GM) {gs : List Fnc} {f : Fnc} (hf : R.fs = gs ++ [f]) {cs : List Value} {cv : Value} {ms : List Nat} {gk : Nat} (hc : CV = cs ++ [cv]) (hm : GM = ms ++ [gk]) (hcl : cs.length = gs.length) (hml : ms.length = gs.length) :
  ∃ fg fc lg lc, fv = .slice (some ⟨fg, 0, none⟩) (gs.length + 1) fc ∧ lv = .slice (some ⟨lg, 0, none⟩) (gs.length + 1) lc ∧ w.cell? ⟨fg, gs.length * 4 + 3, none⟩ = some cv ∧ w.cell? ⟨lg, gs.length, none⟩ = some (.map (some gk)) ∧ w.ownsRow w0.heap.size 75 2 cv f.code.length (Zn f.code) ∧ MapIs w gk f.ls ∧
   (∃ cs', w.heap[fg]? = some (.cells cs' 78 (0, 0))) ∧ (∃ cs', w.heap[lg]? = some (.cells cs' 95 (0, 0))) := by
 have hl : R.fs.length = gs.length + 1 := by rw [hf]; simp
 have hF := h.fns
 have hM := h.mps
 rw [h.glen] at hM
 rw [hl] at hF hM
 obtain ⟨fg, fc, c1, rfl, _, h1⟩ := Yw hF (by omega)
 obtain ⟨lg, lc, c2, rfl, _, h2⟩ := Yw hM (by omega)
 refine ⟨fg, fc, lg, lc, rfl, rfl, ?_, ?_, ?_, ?_, ⟨c1, h1⟩, ⟨c2, h2⟩⟩
 ·have := hF.cells (g := fg) rfl (gs.length * 4 + 3) cv (by
   rw [hf, hc, Zal (gs ++ [f]) (cs ++ [cv]) gs.length f cv (Zl _ _) (by rw [← hcl]; exact Zl _ _) 3 (by omega)]
   rfl)
  rw [Addr.add_lit, Nat.zero_add] at this
  exact this
 ·have := hM.cells (g := lg) rfl gs.length (.map (some gk)) (by
   rw [hm, List.map_append, ← hml]
   have := Zl (ms.map mpV) (mpV gk)
   rw [List.length_map] at this
   exact this)
  rw [Addr.add_lit, Nat.zero_add] at this
  exact this
 ·exact h.code.row gs.length cv (Yj f) (by rw [hc, ← hcl]; exact Zl _ _) (by rw [hf, List.map_append]; have := Zl (gs.map Yj) (Yj f); rw [List.length_map] at this; exact this)
 ·exact h.maps gs.length gk f (by rw [hm, ← hml]; exact Zl _ _) (by rw [hf]; exact Zl _ _)
theorem RdX.label {w' : World} (h : RdX w0 w r R dv fv lv wv gm CV GM) {gs : List Fnc} {f : Fnc} (hf : R.fs = gs ++ [f]) {ms : List Nat} {gk : Nat} (hm : GM = ms ++ [gk]) (hml : ms.length = gs.length) (hk : Kept (fun q => q = gk) w w') {L : List (ByteArray × Int)} (hL : MapIs w' gk L) :
  RdX w0 w' r ⟨R.mem, R.sized, R.data, gs ++ [⟨f.nm, f.a, f.l, f.r, L, f.code⟩], R.ws⟩ dv fv lv wv gm CV GM ∧ OthA w w' := by
 have hmp : MapIs w gk f.ls := h.maps gs.length gk f (by rw [hm, ← hml]; exact Zl _ _) (by rw [hf]; exact Zl _ _)
 have hnd := h.nodup
 have hgk : gk ∈ GM := by rw [hm]; simp
 have hne : gm ≠ gk := fun e => (List.nodup_cons.1 hnd).1 (by rw [e]; exact hgk)
 have hnn : nmL 0 (gs ++ [(⟨f.nm, f.a, f.l, f.r, L, f.code⟩ : Fnc)]) = nmL 0 R.fs := Zeq 0 _ _ (by rw [hf]; simp)
 have hlen : (gs ++ [(⟨f.nm, f.a, f.l, f.r, L, f.code⟩ : Fnc)]).length = R.fs.length := by rw [hf]; simp
 refine ⟨⟨⟨hmp.box hk h.box, hmp.own hk h.data, ?_, ?_, hmp.own hk h.mps, fun i g f' h1 h2 => ?_, ?_, h.nodup, h.newer, hmp.own hk h.wts, h.kept.step hk (fun q hq e => ?_), h.lo⟩, ?_⟩, hmp.othA hk⟩
 ·have := hmp.own hk h.fns
  show w'.ownsRow _ _ _ _ (gs ++ [_]).length (Zw (gs ++ [_]) CV)
  have e : Zw (gs ++ [(⟨f.nm, f.a, f.l, f.r, L, f.code⟩ : Fnc)]) CV = Zw R.fs CV := Zaw _ _ CV (by rw [hf]; simp)
  rw [hlen, e]
  exact this
 ·have := hmp.fam hk h.code
  show Fam w' _ _ _ CV ((gs ++ [_]).map Yj)
  rw [hf] at this
  rw [List.map_append] at this ⊢
  exact this
 ·by_cases hi : i < gs.length
  ·have h2' : (gs ++ [(⟨f.nm, f.a, f.l, f.r, L, f.code⟩ : Fnc)])[i]? = some f' := h2
   rw [List.getElem?_append_left hi] at h2'
   have hmi := h.maps i g f' h1 (by rw [hf, List.getElem?_append_left hi]; exact h2')
   refine hmi.other hk (fun e => ?_)
   have hgn := (List.nodup_cons.1 hnd).2
   rw [hm] at h1 hgn
   rw [List.getElem?_append_left (by omega)] at h1
   have h3 := (List.nodup_append.1 hgn).2.2 g (List.mem_of_getElem? h1) gk (by simp)
   exact h3 e
  ·have h0 : i = gs.length := by
    have := (List.getElem?_eq_some_iff.1 h1).1
    rw [hm, List.length_append, hml] at this
    simp at this
    omega
   subst h0
   have h2' : (gs ++ [(⟨f.nm, f.a, f.l, f.r, L, f.code⟩ : Fnc)])[gs.length]? = some f' := h2
   rw [Zl] at h2'
   rw [hm, ← hml, Zl] at h1
   cases h1
   cases h2'
   exact hL
 ·rw [hnn]
  exact h.names.other hk hne
 ·have := h.newer gk (List.mem_cons_of_mem _ hgk)
  omega
 ·exact h.glen.trans hlen.symm
def Zxs (w0 w : World) (r : Nat) (R : Rdr) (gs : List Fnc) (o : Option Fnc) (e : Ending) (w' : World) : Prop :=
 Kept nF w0 w' ∧ ((∃ f', o = some f' ∧ e = .returned (.bool true) ∧ RdG w0 w' r ⟨R.mem, R.sized, R.data, gs ++ [f'], R.ws⟩ ∧ OthA w w') ∨ (o = none ∧ e = .returned (.bool false)))
theorem Zoc (B : Nat) (v : Value) (ls : List ByteArray) (gs : List Fnc) (f : Fnc) (hfs : R.fs = gs ++ [f]) (h : RdG w0 w r R) (hv : w.ownsRow B 9 1 v ls.length (labs ls)) (hl : gs.length ≤ 80000) (hll : ls.length ≤ 90000) (hcl : f.code.length ≤ 90000) :
  Calls Tryz.prog 86 #[.pointer (some ⟨r, 0, none⟩), v] w (Zxs w0 w r R gs (Xu f ls)) := by
 obtain ⟨va, vc, hvv⟩ := Zd hv
 obtain ⟨n, hn⟩ := nmd (ls.length)
 rw [← hn] at hvv
 have HV := Za hv
 have HN := Za hn
 have HG0 : Hid (RdG w0 w r ⟨R.mem, R.sized, R.data, gs ++ [f], R.ws⟩) := by
  show RdG w0 w r ⟨R.mem, R.sized, R.data, gs ++ [f], R.ws⟩
  rw [← hfs]
  exact h
 have HKW : Hid (Kept nF w0 w) := by
  obtain ⟨_, _, _, _, _, _, _, hX⟩ := h
  exact hX.kept
 have hnI : (n : Int) ≤ 90000 := by omega
 have HLI : Hid (∀ (i : Nat) (hi : i < ls.length) (W : World), OthA w W → ∃ g, va = some ⟨g, 0, none⟩ ∧ W.cell? ⟨g, i, none⟩ = some (.string (ls[i]'hi))) := fun i hi W hW => by
  obtain ⟨g, c, cs, e1, e2, e3⟩ := Yw hv (by omega)
  rw [hvv] at e1
  cases e1
  refine ⟨g, rfl, ?_⟩
  have hc := hv.cells (g := g) (by rw [hvv]; rfl) i (.string (ls[i]'hi)) (by unfold labs; rw [List.getElem?_map, List.getElem?_eq_getElem hi]; rfl)
  rw [Addr.add_lit, Nat.zero_add] at hc
  have e4 := hW g cs 9 _ e3
  have e5 := Zb _ _ i _ _ _ e3
  rw [hc] at e5
  rw [Zb _ _ i _ _ _ e4]
  exact e5.symm
 obtain ⟨o, ho⟩ := nmd (Xu f ls)
 rw [← ho]
 have HF0 : Hid (o = Xu f (ls.drop 0)) := by show o = _; rw [ho]; rfl
 have HGSL : Hid (gs.length ≤ 80000 ∧ f.code.length ≤ 90000) := ⟨hl, hcl⟩
 subst hvv
 clear h hv hn ho hfs hl hll hcl
 go_enter Tryz.func86, Tryz.ntmps86
 go_wp2
 go_loopw [9] (fun iv wr => ∃ (i : Nat) (f' : Fnc), iv = .int .i64 (i : Int) ∧ i ≤ n ∧ Hid (RdG w0 wr r ⟨R.mem, R.sized, R.data, gs ++ [f'], R.ws⟩) ∧ Hid (o = Xu f' (ls.drop i)) ∧ Hid (f'.code = f.code) ∧ Hid (OthA w wr)) (fun iv _ => n - (intOf iv).toNat)
 case atStart => exact ⟨0, f, rfl, Nat.zero_le _, HG0, HF0, rfl, OthA.refl w⟩
 case round =>
  clear HG0 HF0 HKW
  obtain ⟨i, f', rfl, hin, HGR, HFR, HCR, HOR⟩ := hrel
  by_cases hlt : i < n
  ·have hil : i < ls.length := by have := HN.out; omega
   have hltI : (i : Int) < (n : Int) := by omega
   obtain ⟨g, rfl, q0⟩ := HLI.out i hil wr HOR.out
   obtain ⟨s, hs⟩ := nmd (ls[i]'hil)
   rw [← hs] at q0
   have HD : Hid (o = Xu f' (s :: ls.drop (i + 1))) := by
    show o = _
    rw [HFR.out, List.drop_eq_getElem_cons hil, hs]
   clear hs hil HFR
   go_upto_region 4 with fail
   have hkd : Kept nF wr wr.drew := (Kept.refl _ _).drew
   have HOD := Za (HOR.out.trans (Kept.othA hkd))
   obtain ⟨dv, fv, lv, wv, gm, CV, GM, hX0⟩ := HGR.out
   have HX := Za (hX0.same hkd)
   clear hkd q0 hX0 HGR HOR
   obtain ⟨cs, cv, ms, gk, hcc, hmm, hc1, hm1⟩ := HX.out.parts (gs := gs) (f := f') rfl
   obtain ⟨fg, fc, lg, lc, hfv, hlv, x1, x2, hco, hmp, hb1, hb2⟩ := HX.out.cells (gs := gs) (f := f') rfl hcc hmm hc1 hm1
   obtain ⟨cb1, hb1⟩ := hb1
   obtain ⟨cb2, hb2⟩ := hb2
   obtain ⟨ca, cc, hcv⟩ := Zd hco
   obtain ⟨nc, hnc⟩ := nmd (f'.code.length)
   have HNC : Hid (nc ≤ 90000 ∧ nc = f'.code.length) := ⟨by rw [hnc, HCR.out]; exact HGSL.out.2, hnc⟩
   rw [← hnc] at hcv
   have HMP := Za hmp
   have hr0 := HX.out.box
   refine wp_region_held_drew (S := fun w' => Kept (fun q => q = gk) wr.drew w') (by kernel_rfl) (Kept.refl _ _) (fun qh => ?_)
   generalize wr.drew = wd at *
   have HSM : Hid (∀ w', Kept (fun q => q = gk) wd w' → w'.cell? ⟨r, 5, none⟩ = some lv ∧ w'.cell? ⟨r, 2, none⟩ = some fv ∧ w'.cell? ⟨lg, gs.length, none⟩ = some (.map (some gk)) ∧ w'.cell? ⟨fg, gs.length * 4 + 3, none⟩ = some cv) := fun w' hw =>
    ⟨hw.cell (Zb _ _ 5 _ _ _ hr0) (hmp.not_box hr0), hw.cell (Zb _ _ 2 _ _ _ hr0) (hmp.not_box hr0), hw.cell x2 (hmp.not_box hb2), hw.cell x1 (hmp.not_box hb1)⟩
   have HLA := Za (Zgy HX.out.toRdZ gs f' rfl (by have := HGSL.out.1; omega))
   have HMM : Hid (GM = ms ++ [gk] ∧ ms.length = gs.length) := ⟨hmm, hm1⟩
   obtain ⟨m, hm⟩ := nmd (gs.length)
   rw [← hm] at HSM HLA hfv hlv
   obtain ⟨mm, hmm2⟩ := nmd (m + 1)
   rw [← hmm2] at hfv hlv
   have hmI : (m : Int) < (mm : Int) := by omega
   have hmB : (m : Int) ≤ 80000 := by have := HGSL.out.1; omega
   subst hfv hlv hcv
   clear hr0 hmp hb1 hb2 hco x1 x2 hcc hmm hc1 hm1 hnc hm hmm2
   by_cases hnm : (lkA f'.ls s).isSome = true
   ·have HON : Hid (o = none) := by
     show o = none
     rw [HD.out, Xu, if_pos hnm]
    have HNA := Za (Zjt gk s (nc : Int) f'.ls HMP.out hnm)
    clear hnm HD
    iterate 4
     refine tkn (v := ?_) 0 rfl ?_ ?_; rotate_left
     ·intro w hSw; obtain ⟨s0, s1, s2, s3⟩ := HSM.out w hSw; go_simp; try with_reducible rfl
     try simp only [Act.put, tdy]
    iterate 1
     refine tkn (v := ?_) 4 rfl ?_ ?_; rotate_left
     ·intro w hSw; go_simp; try with_reducible rfl
     try simp only [Act.put, tdy]
    iterate 2
     refine tkn (v := ?_) 8 rfl ?_ ?_; rotate_left
     ·intro w hSw; go_simp; try with_reducible rfl
     try simp only [Act.put, tdy]
    iterate 1
     refine tkn (v := ?_) 10 rfl ?_ ?_; rotate_left
     ·intro w hSw; go_simp; try with_reducible rfl
     try simp only [Act.put, tdy]
    iterate 3
     refine tkn (v := ?_) 11 rfl ?_ ?_; rotate_left
     ·intro w hSw; obtain ⟨s0, s1, s2, s3⟩ := HSM.out w hSw; go_simp; try with_reducible rfl
     try simp only [Act.put, tdy]
    iterate 1
     refine tkn (v := ?_) 14 rfl ?_ ?_; rotate_left
     ·intro w hSw; go_simp; try with_reducible rfl
     try simp only [Act.put, tdy]
    refine rdy 5 rfl (fun K hK => ?_)
    go_simp
    refine HLA.out.mono ?_
    rintro e w4 ⟨rfl, hw⟩
    have hw := hw.symm
    subst hw
    refine hK.out _ _ qh (fun qh => ?_)
    clear hK K
    try simp only [Act.put, tdy]
    iterate 2
     refine tkn (v := ?_) 6 rfl ?_ ?_; rotate_left
     ·intro w hSw; obtain ⟨s0, s1, s2, s3⟩ := HSM.out w hSw; go_simp; try with_reducible rfl
     try simp only [Act.put, tdy]
    refine rdy 15 rfl (fun K hK => ?_)
    go_simp
    refine HLA.out.mono ?_
    rintro e w4 ⟨rfl, hw⟩
    have hw := hw.symm
    subst hw
    refine hK.out _ _ qh (fun qh => ?_)
    clear hK K
    try simp only [Act.put, tdy]
    iterate 4
     refine tkn (v := ?_) 16 rfl ?_ ?_; rotate_left
     ·intro w hSw; obtain ⟨s0, s1, s2, s3⟩ := HSM.out w hSw; go_simp; try with_reducible rfl
     try simp only [Act.put, tdy]
    refine rdy 20 rfl (fun K hK => ?_)
    go_simp
    refine HNA.out.mono ?_
    rintro e w4 ⟨rfl, hw⟩
    have hw := hw.symm
    subst hw
    refine hK.out _ _ qh (fun qh => ?_)
    clear hK K
    try simp only [Act.put, tdy]
    iterate 1
     refine tkn (v := ?_) 21 rfl ?_ ?_; rotate_left
     ·intro w hSw; go_simp; try with_reducible rfl
     try simp only [Act.put, tdy]
    refine wpAnyH_done (by kernel_rfl) ?_ _
    go_wp2
    go_ret
    exact ⟨HX.out.kept, .inr ⟨HON.out, rfl⟩⟩
   ·have hno : lkA f'.ls s = none := by simpa using hnm
    have HDN : Hid (o = Xu ⟨f'.nm, f'.a, f'.l, f'.r, f'.ls ++ [(s, (nc : Int))], f'.code⟩ (ls.drop (i + 1))) := by
     show o = _
     rw [HD.out, Xu, if_neg hnm, HNC.out.2]
    have HNA := Za (Zia gk s (nc : Int) f'.ls HMP.out hno)
    clear hnm hno HD
    iterate 4
     refine tkn (v := ?_) 0 rfl ?_ ?_; rotate_left
     ·intro w hSw; obtain ⟨s0, s1, s2, s3⟩ := HSM.out w hSw; go_simp; try with_reducible rfl
     try simp only [Act.put, tdy]
    iterate 1
     refine tkn (v := ?_) 4 rfl ?_ ?_; rotate_left
     ·intro w hSw; go_simp; try with_reducible rfl
     try simp only [Act.put, tdy]
    iterate 2
     refine tkn (v := ?_) 8 rfl ?_ ?_; rotate_left
     ·intro w hSw; go_simp; try with_reducible rfl
     try simp only [Act.put, tdy]
    iterate 1
     refine tkn (v := ?_) 10 rfl ?_ ?_; rotate_left
     ·intro w hSw; go_simp; try with_reducible rfl
     try simp only [Act.put, tdy]
    iterate 3
     refine tkn (v := ?_) 11 rfl ?_ ?_; rotate_left
     ·intro w hSw; obtain ⟨s0, s1, s2, s3⟩ := HSM.out w hSw; go_simp; try with_reducible rfl
     try simp only [Act.put, tdy]
    iterate 1
     refine tkn (v := ?_) 14 rfl ?_ ?_; rotate_left
     ·intro w hSw; go_simp; try with_reducible rfl
     try simp only [Act.put, tdy]
    refine rdy 5 rfl (fun K hK => ?_)
    go_simp
    refine HLA.out.mono ?_
    rintro e w4 ⟨rfl, hw⟩
    have hw := hw.symm
    subst hw
    refine hK.out _ _ qh (fun qh => ?_)
    clear hK K
    try simp only [Act.put, tdy]
    iterate 2
     refine tkn (v := ?_) 6 rfl ?_ ?_; rotate_left
     ·intro w hSw; obtain ⟨s0, s1, s2, s3⟩ := HSM.out w hSw; go_simp; try with_reducible rfl
     try simp only [Act.put, tdy]
    refine rdy 15 rfl (fun K hK => ?_)
    go_simp
    refine HLA.out.mono ?_
    rintro e w4 ⟨rfl, hw⟩
    have hw := hw.symm
    subst hw
    refine hK.out _ _ qh (fun qh => ?_)
    clear hK K
    try simp only [Act.put, tdy]
    iterate 4
     refine tkn (v := ?_) 16 rfl ?_ ?_; rotate_left
     ·intro w hSw; obtain ⟨s0, s1, s2, s3⟩ := HSM.out w hSw; go_simp; try with_reducible rfl
     try simp only [Act.put, tdy]
    refine rdy 20 rfl (fun K hK => ?_)
    go_simp
    refine HNA.out.mono ?_
    rintro e w4 ⟨rfl, hk4, hm4⟩
    refine hK.out _ _ hk4 (fun qh => ?_)
    clear hK K
    try simp only [Act.put, tdy]
    iterate 1
     refine tkn (v := ?_) 21 rfl ?_ ?_; rotate_left
     ·intro w hSw; go_simp; try with_reducible rfl
     try simp only [Act.put, tdy]
    refine wpAnyH_done (by kernel_rfl) ?_ _
    obtain ⟨hX5, hO5⟩ := HX.out.label (gs := gs) (f := f') rfl HMM.out.1 HMM.out.2 hk4 hm4
    have HG5 : Hid (RdG w0 w4 r ⟨R.mem, R.sized, R.data, gs ++ [⟨f'.nm, f'.a, f'.l, f'.r, f'.ls ++ [(s, (nc : Int))], f'.code⟩], R.ws⟩) := ⟨_, _, _, _, _, _, _, hX5⟩
    have HO5 := Za (HOD.out.trans hO5)
    clear hX5 hO5 hk4 hm4 HX HSM HMP HNA HLA qh
    go_wp2
    go_roundw
    case rel => exact ⟨i + 1, _, by go_num, by omega, HG5, HDN, HCR, HO5⟩
    case measure => simp [intOf]; omega
  ·have hlt' : ¬ (i : Int) < (n : Int) := by omega
   have HE : Hid (o = some f') := by
    show o = _
    have := HFR.out
    rw [List.drop_of_length_le (by have := HN.out; omega)] at this
    exact this
   clear HFR
   go_wp2
   go_ret
   obtain ⟨_, _, _, _, _, _, _, hX⟩ := HGR.out
   exact ⟨hX.kept, .inl ⟨f', HE.out, rfl, HGR.out, HOR.out⟩⟩
end Go.Proofs.YtgoabnehdmdikaaGreatDoor
namespace Go.Proofs.YtgoabnehdmdikaaGreatDoor
open Go.RowKit
variable {w0 w : World} {r gm : Nat} {R : Rdr} {NL : List (ByteArray × Int)} {dv fv lv wv : Value} {CV : List Value} {GM : List Nat}
theorem Tryz.info135 : (Tryz.prog.info? 135).map (fun i => (i.zero, i.size, i.bytes)) = some (some (.agg #[.int .i64 0, .int .i64 0, .int .i64 0, .string ⟨#[]⟩, .map none]), 5, 48) := by kernel_rfl
theorem Zt0 {w0 W : World} {v : Value} {k : Nat} {xs : List Value} (h : W.ownsRow w0.heap.size 135 5 v k xs) (x0 x1 x2 x3 x4 : Value) (h0 : x0.oneCell' = true) (h1 : x1.oneCell' = true) (h2 : x2.oneCell' = true) (h3 : x3.oneCell' = true) (h4' : x4.oneCell' = true) (hk : Kept nF w0 W) (hl : k ≤ 90000) :
  ∃ v' w', (Builtin.append_ #[97, 97] 97 #[v, .slice (some ⟨W.heap.size, 0, none⟩) 1 1]).run Tryz.prog (W.alloc (.cells #[x0, x1, x2, x3, x4] 135)) = .ok v' w' ∧ w'.ownsRow w0.heap.size 135 5 v' (k + 1) (xs ++ [x0, x1, x2, x3, x4]) ∧ Kept nF w0 w' ∧ Kept (fun q => v.ownBlock = some q) W w' ∧ Xx W v v' := by
 obtain ⟨i0, hi, hz0, hz1, hz2⟩ := info_parts Tryz.info135
 obtain ⟨v', w', hr, h2', h3', h4, _⟩ := Zaa (P := Tryz.prog) (W.alloc (.cells #[x0, x1, x2, x3, x4] 135)) w0.heap.size 97 97 135 i0 _ 5 48 Tryz.underlying97 hi hz0 hz1 hz2 rfl (by decide) v k xs (h.alloc _) ⟨W.heap.size, 0, none⟩ 1 1 [x0, x1, x2, x3, x4] (by simp) (fun j u hj => by
  have hjl := (List.getElem?_eq_some_iff.1 hj).1
  rw [Addr.add_lit, Nat.zero_add, Zb _ _ _ _ _ _ (heap_alloc_new W _)]
  simpa using hj) (fun u hu => by
   simp at hu
   rcases hu with rfl | rfl | rfl | rfl | rfl <;> assumption) (by unfold maxLen; omega) (by omega) (by have := hk.size; simp; omega)
 have hk1 : Kept (fun k => v.ownBlock = some k) W w' := ((Kept.refl _ W).alloc _).grown h3' (fun k hk => .inr hk)
 exact ⟨v', w', hr, h2', hk.step hk1 (fun i hi e => by have := (h.lt i e).1; omega), hk1, by simpa [Xx] using h4⟩
theorem Zq5 (ln f p : Int) (s : ByteArray) (m : Nat) : Tryz.prog.built 135 [(0, .int .i64 ln), (1, .agg #[.int .i64 f, .int .i64 p]), (2, .string s), (3, .map (some m))] = some #[.int .i64 ln, .int .i64 f, .int .i64 p, .string s, .map (some m)] := by kernel_rfl
theorem Zvw (w : World) (ln f p : Int) (s : ByteArray) (m : Nat) : (Instr.build 135 #[(0, .int .i64 ln), (1, .agg #[.int .i64 f, .int .i64 p]), (2, .string s), (3, .map (some m))]).run Tryz.prog w = .ok (.agg #[.int .i64 ln, .int .i64 f, .int .i64 p, .string s, .map (some m)]) w :=
 run_build w 135 _ _ (Zq5 ln f p s m)
theorem Zf4 (ev : Operand → Value) (oi : Oper) (w : World) (ln f p : Int) (s : ByteArray) (m : Nat) (o0 o1 o2 o3 : Operand) (ho : oi.op = .build 135 #[(0, o0), (1, o1), (2, o2), (3, o3)]) (h0 : ev o0 = .int .i64 ln) (h1 : ev o1 = .agg #[.int .i64 f, .int .i64 p]) (h2 : ev o2 = .string s) (h3 : ev o3 = .map (some m)) :
  Sem.run Tryz.prog (execOp ev oi) w = Result.ok (Next.value (.agg #[.int .i64 ln, .int .i64 f, .int .i64 p, .string s, .map (some m)])) w := by
 have hr := Zvw w ln f p s m
 unfold execOp
 simp only [ho, List.map_toArray, List.map_cons, List.map_nil, h0, h1, h2, h3, Sem.run_bind, hr, Result.andThen_ok, Sem.run_pure]
theorem RdX.pushW (h : RdX w0 w r R dv fv lv wv gm CV GM) (x : Wt) (hn : R.ws.length ≤ 90000) :
  ∃ a m c w5, (Builtin.append_ #[97, 97] 97 #[wv, .slice (some ⟨w.heap.size, 0, none⟩) 1 1]).run Tryz.prog (w.alloc (.cells #[.int .i64 x.ln, .int .i64 (x.fn : Int), .int .i64 (x.pl : Int), .string x.nm, .map (some (wtM gm GM x))] 135)) = .ok (.slice a m c) w5 ∧ Kept (fun q => wv.ownBlock = some q) w w5 ∧ OthG w w5 ∧
   w5.heap[r]? = some (.cells #[.int .i64 R.mem, dv, fv, .bool R.sized, .map (some gm), lv, wv] 99 (0, 0)) ∧
   RdX w0 (w5.setCell ⟨r, 6, none⟩ (.slice a m c)) r ⟨R.mem, R.sized, R.data, R.fs, R.ws ++ [x]⟩ dv fv lv (.slice a m c) gm CV GM ∧ OthG w5 (w5.setCell ⟨r, 6, none⟩ (.slice a m c)) := by
 obtain ⟨v', w5, hr, ho, hk0, hk1, hnb⟩ := Zt0 h.wts (.int .i64 x.ln) (.int .i64 (x.fn : Int)) (.int .i64 (x.pl : Int)) (.string x.nm) (.map (some (wtM gm GM x))) rfl rfl rfl rfl rfl h.kept hn
 obtain ⟨a, c, hv⟩ := Zd ho
 have hch := Yz h.wts
 have hy : RdY w0 w5 ⟨R.mem, R.sized, R.data, R.fs, R.ws ++ [x]⟩ (nmL 0 R.fs) dv fv lv v' gm CV GM := by
  refine ⟨Zi hk1 hch h.data (by decide), Zi hk1 hch h.fns (by decide), h.code.ch hk1 hch (by decide), Zi hk1 hch h.mps (by decide), fun i g f' h1 h2 => (h.maps i g f' h1 h2).ch hk1 hch, h.names.ch hk1 hch, h.nodup, h.newer, ?_⟩
  show w5.ownsRow _ _ _ _ (R.ws ++ [x]).length (Zac gm GM (R.ws ++ [x]))
  rw [Zjr, List.length_append]
  exact ho
 obtain ⟨h5, h6, h7, h8⟩ := h.toRdZ.store hk1 hch (by decide) (fun q hq => (h.wts.lt q hq).1) hy 6 v' rfl
 subst hv
 exact ⟨_, _, _, w5, hr, hk1, h5, h6, ⟨h7, h.glen⟩, h8⟩
theorem Za7 {α : Type} (l : List α) (x y : α) : (l ++ [x]).set l.length y = l ++ [y] := by simp
theorem Zgf (ys : List IN) (op a : Int) : Zn (ys ++ [⟨op, a⟩]) = Zn ys ++ [.int .i64 op, .int .i64 a] := by simp [Zn, IN.cells]
theorem RdX.pushC (h : RdX w0 w r R dv fv lv wv gm CV GM) {gs : List Fnc} {f : Fnc} (hf : R.fs = gs ++ [f]) {cs : List Value} {cv : Value} (hc : CV = cs ++ [cv]) (hcl : cs.length = gs.length) (fg fn fc : Nat) (hfv : fv = .slice (some ⟨fg, 0, none⟩) fn fc) (op ar : Int) (hn : f.code.length ≤ 90000) :
  ∃ a m c w5, (Builtin.append_ #[76, 76] 76 #[cv, .slice (some ⟨w.heap.size, 0, none⟩) 1 1]).run Tryz.prog (w.alloc (.cells #[.int .i64 op, .int .i64 ar] 75)) = .ok (.slice a m c) w5 ∧ Kept (fun q => cv.ownBlock = some q) w w5 ∧ OthG w w5 ∧
   w5.cell? ⟨fg, gs.length * 4 + 3, none⟩ = some cv ∧ w5.frozen? ⟨fg, gs.length * 4 + 3, none⟩ = false ∧
   RdX w0 (w5.setCell ⟨fg, gs.length * 4 + 3, none⟩ (.slice a m c)) r ⟨R.mem, R.sized, R.data, gs ++ [Xh f op ar], R.ws⟩ dv fv lv wv gm (cs ++ [.slice a m c]) GM ∧ OthG w5 (w5.setCell ⟨fg, gs.length * 4 + 3, none⟩ (.slice a m c)) ∧ w0.heap.size ≤ fg := by
 have hcv : CV[gs.length]? = some cv := by rw [hc, ← hcl]; exact Zl _ _
 have hco : w.ownsRow w0.heap.size 75 2 cv f.code.length (Zn f.code) := h.code.row gs.length cv (Yj f) hcv (by rw [hf, List.map_append]; have := Zl (gs.map Yj) (Yj f); rw [List.length_map] at this; exact this)
 obtain ⟨v', w5, hr, ho, hk0, hk1, hnb⟩ := Zlb hco (.int .i64 op) (.int .i64 ar) rfl rfl h.kept hn
 obtain ⟨a, c, hv⟩ := Zd ho
 have hch := Yz hco
 have hF5 := Zi hk1 hch h.fns (by decide)
 rw [hfv] at hF5
 have hlen : R.fs.length = gs.length + 1 := by rw [hf]; simp
 have hfn : fn = R.fs.length := by
  rcases hF5.2 with ⟨e, _⟩ | ⟨g, cap, cur, e, _⟩
  ·cases e
  ·cases e; rfl
 subst hfn
 have hfg := hF5.lt fg rfl
 have hcell : w5.cell? ⟨fg, gs.length * 4 + 3, none⟩ = some cv := by
  have := hF5.cells (g := fg) rfl (gs.length * 4 + 3) cv (by
   rw [hf, hc, Zal (gs ++ [f]) (cs ++ [cv]) gs.length f cv (Zl _ _) (by rw [← hcl]; exact Zl _ _) 3 (by omega)]
   rfl)
  rw [Addr.add_lit, Nat.zero_add] at this
  exact this
 have hs := Zg w5 fg (gs.length * 4 + 3) v'
 have hcb : Ch w5 (fun q => q = fg) 78 := fun q hq => by
  subst hq
  exact Yz hF5 _ rfl
 have hFst := (hF5.stored (gs.length * 4 + 3) v').1
 have hCod := (h.code.set (k := gs.length) hcv hk1 v' (f.code.length + 1, Zn (f.code ++ [⟨op, ar⟩])) (by rw [Zgf]; exact ho) (fun q hq => by
  rcases hnb with e | e
  ·exact .inl (by rw [← e]; exact hq)
  ·rw [e] at hq
   cases hq
   exact .inr (by omega)))
 rw [hc, ← hcl, Za7, hcl, hf, List.map_append, List.map_cons, List.map_nil, ← List.length_map (f := Yj), Za7] at hCod
 have hnn : nmL 0 (gs ++ [Xh f op ar]) = nmL 0 R.fs := Zeq 0 _ _ (by rw [hf]; simp [Xh])
 have hll : (gs ++ [Xh f op ar]).length = R.fs.length := by rw [hf]; simp
 have hX : RdX w0 (w5.setCell ⟨fg, gs.length * 4 + 3, none⟩ v') r ⟨R.mem, R.sized, R.data, gs ++ [Xh f op ar], R.ws⟩ dv fv lv wv gm (cs ++ [v']) GM := by
  refine ⟨⟨Zah hs hcb (Zah hk1 hch h.box (by decide)) (by decide), Zi hs hcb (Zi hk1 hch h.data (by decide)) (by decide), ?_, ?_, Zi hs hcb (Zi hk1 hch h.mps (by decide)) (by decide), fun i g f' h1 h2 => ?_, ?_, h.nodup, h.newer, Zi hs hcb (Zi hk1 hch h.wts (by decide)) (by decide), ?_, h.lo⟩, h.glen.trans hll.symm⟩
  ·show World.ownsRow _ _ _ _ fv (gs ++ [Xh f op ar]).length (Zw (gs ++ [Xh f op ar]) (cs ++ [v']))
   have e : Zw (gs ++ [Xh f op ar]) (cs ++ [v']) = (Zw R.fs CV).set (gs.length * 4 + 3) v' := by
    rw [hf, hc, Zfh gs cs f cv v' hcl]
    exact Zaw _ _ _ (by simp [Xh])
   rw [hll, e, hfv]
   exact hFst
  ·show Fam _ _ _ _ _ ((gs ++ [Xh f op ar]).map Yj)
   rw [List.map_append]
   have := hCod.ch hs hcb (by decide)
   have e : [Xh f op ar].map Yj = [(f.code.length + 1, Zn (f.code ++ [⟨op, ar⟩]))] := by simp [Yj, Xh]
   rw [e]
   exact this
  ·by_cases hi : i < gs.length
   ·have h2' : (gs ++ [Xh f op ar])[i]? = some f' := h2
    rw [List.getElem?_append_left hi] at h2'
    exact ((h.maps i g f' h1 (by rw [hf, List.getElem?_append_left hi]; exact h2')).ch hk1 hch).ch hs hcb
   ·have h0 : i = gs.length := by
     have := (List.getElem?_eq_some_iff.1 h1).1
     rw [h.glen, hlen] at this
     omega
    subst h0
    have h2' : (gs ++ [Xh f op ar])[gs.length]? = some f' := h2
    rw [Zl] at h2'
    cases h2'
    exact ((h.maps gs.length g f h1 (by rw [hf]; exact Zl _ _)).ch hk1 hch).ch hs hcb
  ·rw [hnn]
   exact (h.names.ch hk1 hch).ch hs hcb
  ·exact hk0.setCell (.inl hfg.1) _
 refine ⟨a, _, c, w5, by rw [hr, hv], hk1, Zdi hk1 hch (by decide), hcell, hF5.frozenAt _, ?_, ?_, hfg.1⟩
 ·rw [← hv]
  exact hX
 ·exact Zdi (Zg w5 fg (gs.length * 4 + 3) _) hcb (by decide)
end Go.Proofs.YtgoabnehdmdikaaGreatDoor

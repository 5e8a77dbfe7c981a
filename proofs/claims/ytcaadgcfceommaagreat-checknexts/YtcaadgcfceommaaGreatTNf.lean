/-
  TNf: Nf.
-/
import Derived.Test.YtcaadgcfceommaaGreatTNe
import Derived.Test.YtcaadgcfceommaaGreatTLo
import Derived.Test.YtcaadgcfceommaaGreatTLc
import Derived.Test.YtcaadgcfceommaaGreatTLg
import Derived.Test.YtcaadgcfceommaaGreatTLl
import Derived.Test.YtcaadgcfceommaaGreatTQc
namespace Go.Proofs.YtcaadgcfceommaaGreat
open Go.ChangeShapes Go.WideShapes Go.ChangeAt Go.RowKit Go.Deep
set_option linter.unusedVariables false
set_option linter.unusedSimpArgs false
set_option maxRecDepth 100000

theorem sysg : ∀ k : Fin 5, (sysL.getD k.val Sh.none).g = 1 := by decide
theorem takes_same {p : PG} (hc : checkP p = 0) (sf sa : Int) : rtakesD p sf sa = takesD p sf sa := by
  unfold rtakesD takesD
  cases hi : instrD p sf sa with
  | none => rfl
  | some xf =>
    obtain ⟨x, f⟩ := xf
    obtain ⟨hf, hx, _⟩ := instrD_mem hi
    show (if x.op = 19 then ((rowS sysL x.a).t, 1) else tkgv p f x) = tkgv p f x
    by_cases h19 : x.op = 19
    · rw [if_pos h19]
      have hF : firstF p.fns = 0 := by
        unfold checkP at hc
        split at hc
        · cases hc
        · exact hc
      have hE := firstF_zero _ hF f hf
      have hE2 : encE f.code = 0 := by
        unfold errF at hE
        split at hE
        · cases hE
        · exact hE
      have hI : errI x = 0 := by
        unfold encE at hE2
        split at hE2
        · cases hE2
        · exact (firstBad_zero _).1 hE2 x hx
      have hk : kOf x.op = 5 := by rw [h19]; decide
      have hm : mayP 5 x.a = true := by
        unfold errI at hI
        split at hI
        · split at hI
          · rename_i h9
            rw [hk] at h9
            exact h9
          · cases hI
        · cases hI
      have hb : 0 ≤ x.a ∧ x.a < 5 := by simpa [mayP, endOf] using hm
      unfold tkgv
      rw [if_neg (by omega), if_neg (by omega), if_pos h19]
      have hg : (rowS sysL x.a).g = 1 := by
        unfold rowS
        rw [if_pos ⟨hb.1, by show x.a < 5; omega⟩]
        exact sysg ⟨x.a.toNat, by omega⟩
      rw [hg]
    · rw [if_neg h19]
theorem next_len (p : PG) (sf sa : Int) : (nextD p sf sa).length ≤ 10000 := by
  unfold nextD
  cases instrD p sf sa with
  | none => simp
  | some xf =>
    obtain ⟨x, f⟩ := xf
    have h1 := way_len x sa
    refine Nat.le_trans (List.length_filter_le _ _) (by omega)
set_option maxHeartbeats 16000000 in
theorem nexts_walk (v u : Value) (p : PG) (ys : List IN) (w : World) (B : Nat) (h : PgIs w B v p) (hB : B ≤ w.heap.size) (ho : p.Ok) (hu : RowI w u ys) (hul : ∀ q, u.ownBlock = some q → 0 < ys.length → q < w.heap.size) (hn : ys.length * 16 ≤ 140737488351232) (hys : ∀ y ∈ ys, y.Ok) :
    Calls Tryz.prog 4 #[v, u] w fun e w' => e = .returned (.bool true) ∧ Kept (fun _ => False) w w' := by
  have hpg := h
  obtain ⟨dv, fv, rfl, hd, hdl, hf⟩ := h
  obtain ⟨dao, dc, rfl⟩ := hd.shape
  obtain ⟨fao, fc, rfl⟩ := hf.shape
  obtain ⟨sao, sc, rfl⟩ := hu.shape
  obtain ⟨nd, hnd⟩ : ∃ n, n = p.data.length := ⟨_, rfl⟩
  obtain ⟨nf, hnf⟩ : ∃ n, n = p.fns.length := ⟨_, rfl⟩
  obtain ⟨mem, hmem⟩ : ∃ m, m = p.mem := ⟨_, rfl⟩
  obtain ⟨n, hnn⟩ : ∃ n, n = ys.length := ⟨_, rfl⟩
  have HLV : Hid (∀ gd dl gf fl, lentQ p gd dl gf fl = .agg #[.int .i64 mem, .slice (some ⟨gd, 0, none⟩) nd dl, .slice (some ⟨gf, 0, none⟩) nf fl]) := fun _ _ _ _ => by rw [hmem, hnd, hnf]; rfl
  rw [← hmem, ← hnd, ← hnf] at hpg ⊢
  rw [← hnn] at hn hul hu ⊢
  have hnI : (n : Int) ≤ 140737488351232 := by omega
  obtain ⟨gb, hgb⟩ : ∃ g, g = w.heap.size := ⟨_, rfl⟩
  obtain ⟨W, hW⟩ : ∃ W, W = w.alloc (.cells #[.int .i64 mem, .slice dao nd dc, .slice fao nf fc] 25) := ⟨_, rfl⟩
  have k1 : Kept (fun _ => False) w W := by rw [hW]; exact (Kept.refl _ _).alloc _
  have x1 : W.heap[gb]? = some (.cells #[.int .i64 mem, .slice dao nd dc, .slice fao nf fc] 25 (0, 0)) := by rw [hW, hgb]; exact heap_alloc_new w _
  have HKW := hid_of k1
  have HB1 := hid_of x1
  have HGB := hid_of hgb
  have HPG := hid_of (hpg.kept k1 (fun _ _ f => f))
  have HBB := hid_of hB
  have HO := hid_of ho
  have HU := hid_of (hu.kept k1 (fun _ _ f => f))
  have HUL := hid_of hul
  have HNN := hid_of hnn
  have HCK := hid_of (rcheck_any _ p W B HPG.out (Nat.le_trans hB k1.size) ho)
  have c0 := cell_block _ _ 0 _ _ _ x1
  have c1 := cell_block _ _ 1 _ _ _ x1
  have c2 := cell_block _ _ 2 _ _ _ x1
  have HGW : Hid (gb < W.heap.size) := (Array.getElem?_eq_some_iff.1 x1).1
  obtain ⟨ck, hck⟩ : ∃ c, c = checkP p := ⟨_, rfl⟩
  rw [← hck] at HCK
  have HCE := hid_of hck
  clear x1 k1 hd hdl hf hnf hnd hmem hpg ho hB hu hul hnn hck hn
  go_enter Tryz.func4, Tryz.ntmps4
  go_upto_region 1 with fail
  rw [← hW, ← hgb]
  clear hW hgb
  go_wp2_with fail
  refine HCK.out.mono ?_
  rintro e w1 ⟨rfl, hk1⟩
  have HK1 := hid_of hk1
  clear hk1 HCK c0 c1 c2
  by_cases hcz : ck = 0
  · have HTS : Hid (∀ sf sa, rtakesD p sf sa = takesD p sf sa) := fun sf sa => takes_same (by rw [← HCE.out, hcz]) sf sa
    clear HCE
    subst hcz
    go_wp2_with fail
    go_loopw [5] (fun i wr => ∃ k : Nat, k ≤ n ∧ i = .int .i64 (k : Int) ∧ Hid (Kept (fun _ => False) W wr)) (fun i _ => n - (intOf i).toNat)
    case atStart => exact ⟨0, by omega, rfl, HK1⟩
    case round =>
      clear HK1
      obtain ⟨k, hk, rfl, HKR⟩ := hrel
      by_cases hlt : k < n
      · have hltI : (k : Int) < (n : Int) := by omega
        have hkl2 : k < ys.length := by rw [← HNN.out]; exact hlt
        obtain ⟨sg, so, y, rfl, hsl, hy, s0r, s1r⟩ : ∃ (sg so : Nat) (y : IN), sao = some ⟨sg, so, none⟩ ∧ sg < gb ∧ y.Ok ∧ W.cell? ⟨sg, so + k * 2, none⟩ = some (.int .i64 y.op) ∧ W.cell? ⟨sg, so + k * 2 + 1, none⟩ = some (.int .i64 y.a) := by
          rcases HU.out with ⟨e, _⟩ | ⟨g, o, c, e, hc⟩
          · rw [e] at hkl2; simp at hkl2
          · cases e
            have hr := hc k _ (List.getElem?_eq_getElem hkl2)
            refine ⟨g, o, ys[k], rfl, ?_, hys _ (List.getElem_mem hkl2), hr 0 _ rfl, hr 1 _ rfl⟩
            have := HUL.out g rfl (by omega)
            rw [HGB.out]
            exact this
        obtain ⟨sf, hsf⟩ : ∃ z, z = y.op := ⟨_, rfl⟩
        obtain ⟨sa, hsa⟩ : ∃ z, z = y.a := ⟨_, rfl⟩
        rw [← hsf] at s0r
        rw [← hsa] at s1r
        have HS0 := hid_of s0r
        have HS1 := hid_of s1r
        have HSG := hid_of hsl
        have HKa := HKR
        clear s0r s1r hsl hsf hsa hy hkl2 HU HUL
        have HLDa := hid_of (lend_q _ p wr B (HPG.out.kept HKa.out (fun _ _ f => f)) (Nat.le_trans HBB.out (Nat.le_trans HKW.out.size HKa.out.size)) HO.out)
        have hb0 := box_kept HKa.out HB1.out (fun f => f)
        have c0 := cell_block _ _ 0 _ _ _ hb0
        have c1 := cell_block _ _ 1 _ _ _ hb0
        have c2 := cell_block _ _ 2 _ _ _ hb0
        clear hb0
        go_wp2_with fail
        refine HLDa.out.mono ?_
        rintro e wla ⟨hkl, gda, dla, gfa, fla, cvsa, rfl, hlq⟩
        rw [HLV.out]
        have hpl := hlq.pg
        rw [HLV.out] at hpl
        have HXa := hid_of (heap_alloc_new wla (.cells #[.int .i64 mem, .slice (some ⟨gda, 0, none⟩) nd dla, .slice (some ⟨gfa, 0, none⟩) nf fla] 25))
        have hka : Kept (fun _ => False) wla (wla.alloc (.cells #[.int .i64 mem, .slice (some ⟨gda, 0, none⟩) nd dla, .slice (some ⟨gfa, 0, none⟩) nf fla] 25)) := (Kept.refl _ _).alloc _
        have HKLa := hid_of (hkl.trans hka)
        have HLQa := hid_of (hlq.kept hka (fun _ _ f => f))
        have HPLa := hid_of (hpl.kept hka (fun _ _ f => f))
        have HLBa : Hid (∀ q, LBlk gda gfa cvsa q → wr.heap.size ≤ q ∧ q < wla.heap.size) := fun q hq => hlq.blk hq
        have HSZa : Hid (wla.heap.size ≤ (wla.alloc (.cells #[.int .i64 mem, .slice (some ⟨gda, 0, none⟩) nd dla, .slice (some ⟨gfa, 0, none⟩) nf fla] 25)).heap.size) := hka.size
        clear hkl hlq hpl hka HLDa c0 c1 c2
        go_upto_region 7 with fail
        generalize wla.alloc (.cells #[.int .i64 mem, .slice (some ⟨gda, 0, none⟩) nd dla, .slice (some ⟨gfa, 0, none⟩) nf fla] 25) = w2 at *
        generalize wla.heap.size = g6 at *
        have HSX : Hid (∀ w', Kept (fun _ => False) w2 w' → w'.cell? ⟨g6, 0, none⟩ = some (.int .i64 mem) ∧ w'.cell? ⟨g6, 1, none⟩ = some (.slice (some ⟨gda, 0, none⟩) nd dla) ∧ w'.cell? ⟨g6, 2, none⟩ = some (.slice (some ⟨gfa, 0, none⟩) nf fla) ∧ w'.cell? ⟨sg, so + k * 2, none⟩ = some (.int .i64 sf) ∧ w'.cell? ⟨sg, so + k * 2 + 1, none⟩ = some (.int .i64 sa)) := fun w' hw => ⟨hw.cell (cell_block _ _ 0 _ _ _ HXa.out) (fun f => f), hw.cell (cell_block _ _ 1 _ _ _ HXa.out) (fun f => f), hw.cell (cell_block _ _ 2 _ _ _ HXa.out) (fun f => f), (((HKa.out.trans HKLa.out).trans hw).cell HS0.out (fun f => f)), (((HKa.out.trans HKLa.out).trans hw).cell HS1.out (fun f => f))⟩
        have HNX : Hid (∀ W', Kept (fun _ => False) w2 W' → Calls Tryz.prog 17 #[.agg #[.int .i64 mem, .slice (some ⟨gda, 0, none⟩) nd dla, .slice (some ⟨gfa, 0, none⟩) nf fla], .agg #[.int .i64 sf, .int .i64 sa]] W' fun e w' => ∃ v', e = .returned v' ∧ OwnN w' W'.heap.size v' (nextD p sf sa) ∧ Kept (fun _ => False) W' w') := fun W' hW' => cnext_any _ p W' _ (HPLa.out.kept hW' (fun _ _ f => f)) (Nat.le_trans HSZa.out hW'.size) HO.out sf sa
        refine wp_region_held_drew (S := fun w' => Kept (fun _ => False) w2 w') (by kernel_rfl) ((Kept.refl _ _).drew) (fun hHeld => ?_)
        iterate 5
          refine tkn (v := ?_) 0 rfl ?_ ?_; rotate_left 1
          · intro w hSw; obtain ⟨a0, a1, a2, b0, b1⟩ := HSX.out w hSw; go_simp; try with_reducible rfl
          try simp only [Act.put, tdy]
        refine wpAnyH_ready (rs := [5]) (by kernel_rfl) (by simp) ?_
        refine AllReadyH.cons rfl (fun K hK => ?_) AllReadyH.nil
        go_simp
        refine (HNX.out _ hHeld).mono ?_
        rintro e w3 ⟨lv, rfl, hlv, hk3⟩
        have hkk := hHeld.trans hk3
        have hlv2 := own_mono hlv hHeld.size
        refine hK.out _ _ hkk (fun hHeld => ?_)
        clear hK K
        try simp only [Act.put, tdy]
        iterate 1
          refine tkn (v := ?_) 6 rfl ?_ ?_; rotate_left 1
          · intro w hSw; obtain ⟨a0, a1, a2, b0, b1⟩ := HSX.out w hSw; go_simp; try with_reducible rfl
          try simp only [Act.put, tdy]
        refine wpAnyH_done (by kernel_rfl) ?_ _
        obtain ⟨lao, lc, hls⟩ := ownsRow_shape hlv2
        have hlen : (nextD p sf sa).length ≤ 10000 := next_len p sf sa
        obtain ⟨ll, hll⟩ : ∃ z, z = (nextD p sf sa).length := ⟨_, rfl⟩
        rw [← hll] at hls
        subst hls
        have HOL := hid_of hlv2
        have HLEN := hid_of hlen
        have HK3 := hid_of hkk
        have HXL : Hid (∀ w', Kept (LBlk gda gfa cvsa) w3 w' → OwnN w' w2.heap.size (.slice lao ll lc) (nextD p sf sa)) := fun w' hw => hw.ownsRow HOL.out (fun q hq e => by have h1 := (HOL.out.lt q hq).1; have h2 := (HLBa.out q e).2; have h3 := HSZa.out; omega)
        have HSY : Hid (∀ w', Kept (LBlk gda gfa cvsa) w3 w' → (w'.cell? ⟨g6, 0, none⟩ = some (.int .i64 mem) ∧ w'.cell? ⟨g6, 1, none⟩ = some (.slice (some ⟨gda, 0, none⟩) nd dla) ∧ w'.cell? ⟨g6, 2, none⟩ = some (.slice (some ⟨gfa, 0, none⟩) nf fla)) ∧ (w'.cell? ⟨gb, 0, none⟩ = some (.int .i64 mem) ∧ w'.cell? ⟨gb, 1, none⟩ = some (.slice dao nd dc) ∧ w'.cell? ⟨gb, 2, none⟩ = some (.slice fao nf fc)) ∧ w'.cell? ⟨sg, so + k * 2, none⟩ = some (.int .i64 sf) ∧ w'.cell? ⟨sg, so + k * 2 + 1, none⟩ = some (.int .i64 sa)) := fun w' hw => by
          obtain ⟨a0, a1, a2, b0, b1⟩ := HSX.out w3 HK3.out
          have hbx := box_kept ((HKa.out.trans HKLa.out).trans HK3.out) HB1.out (fun f => f)
          have h1 : ¬ LBlk gda gfa cvsa g6 := fun e => by have := (HLBa.out _ e).2; omega
          have h2 : ¬ LBlk gda gfa cvsa gb := fun e => by have := (HLBa.out _ e).1; have := HKa.out.size; have := HGW.out; omega
          have h3 : ¬ LBlk gda gfa cvsa sg := fun e => by have := (HLBa.out _ e).1; have := HKa.out.size; have := HGW.out; have := HSG.out; omega
          exact ⟨⟨hw.cell a0 h1, hw.cell a1 h1, hw.cell a2 h1⟩, ⟨hw.cell (cell_block _ _ 0 _ _ _ hbx) h2, hw.cell (cell_block _ _ 1 _ _ _ hbx) h2, hw.cell (cell_block _ _ 2 _ _ _ hbx) h2⟩, hw.cell b0 h3, hw.cell b1 h3⟩
        have HHE : Hid (∀ W', Kept (fun _ => False) w3 W' → Calls Tryz.prog 13 #[.agg #[.int .i64 mem, .slice (some ⟨gda, 0, none⟩) nd dla, .slice (some ⟨gfa, 0, none⟩) nf fla], .agg #[.int .i64 mem, .slice dao nd dc, .slice fao nf fc]] W' fun e w' => e = .returned (.bool true) ∧ Kept (LBlk gda gfa cvsa) W' w') := fun W' hW' => by
          have h9 := held_q wr.heap.size gda dla gfa fla cvsa (.agg #[.int .i64 mem, .slice dao nd dc, .slice fao nf fc]) p W' B (HLQa.out.kept (HK3.out.trans hW') (fun _ _ f => f)) (HPG.out.kept (((HKa.out.trans HKLa.out).trans HK3.out).trans hW') (fun _ _ f => f)) (Nat.le_trans HBB.out (Nat.le_trans HKW.out.size HKa.out.size)) (((HKLa.out).trans HK3.out).trans hW').size HO.out
          rw [HLV.out] at h9
          exact h9
        have HRN : Hid (∀ W', Kept (LBlk gda gfa cvsa) w3 W' → Calls Tryz.prog 19 #[.agg #[.int .i64 mem, .slice dao nd dc, .slice fao nf fc], .agg #[.int .i64 sf, .int .i64 sa]] W' fun e w' => ∃ v', e = .returned v' ∧ OwnN w' W'.heap.size v' (nextD p sf sa) ∧ Kept (fun _ => False) W' w') := fun W' hW' => rnext_any _ p W' B ((HPG.out.kept ((HKa.out.trans HKLa.out).trans HK3.out) (fun _ _ f => f)).kept hW' (fun q hq e => by have := (HLBa.out _ e).1; have := HKa.out.size; have := HKW.out.size; have := HBB.out; omega)) (Nat.le_trans HBB.out (Nat.le_trans HKW.out.size (Nat.le_trans ((HKa.out.trans HKLa.out).trans HK3.out).size hW'.size))) HO.out sf sa
        have HLK : Hid (∀ q, q < wr.heap.size → ¬ LBlk gda gfa cvsa q) := fun q hq e => by have := (HLBa.out _ e).1; omega
        clear hll hlv hlv2 hlen hkk hk3 HNX hHeld
        go_upto_region 8 with fail
        refine wp_region_held_drew (S := fun w' => Kept (LBlk gda gfa cvsa) w3 w') (by kernel_rfl) ((Kept.refl _ _).drew) (fun hHeld => ?_)
        have hKd : Kept (fun _ => False) w3 w3.drew := (Kept.refl _ _).drew
        generalize w3.drew = wd at *
        iterate 2
          refine tkn (v := ?_) 0 rfl ?_ ?_; rotate_left 1
          · intro w hSw; obtain ⟨⟨a0, a1, a2⟩, ⟨d0, d1, d2⟩, b0, b1⟩ := HSY.out w hSw; go_simp; try with_reducible rfl
          try simp only [Act.put, tdy]
        refine wpAnyH_ready (rs := [2]) (by kernel_rfl) (by simp) ?_
        refine AllReadyH.cons rfl (fun K hK => ?_) AllReadyH.nil
        go_simp
        refine (HHE.out _ hKd).mono ?_
        rintro e w4 ⟨rfl, hk4⟩
        have hkk := hHeld.trans hk4
        refine hK.out _ _ hkk (fun hHeld => ?_)
        clear hK K
        try simp only [Act.put, tdy]
        iterate 8
          refine tkn (v := ?_) 3 rfl ?_ ?_; rotate_left 1
          · intro w hSw; obtain ⟨⟨a0, a1, a2⟩, ⟨d0, d1, d2⟩, b0, b1⟩ := HSY.out w hSw; go_simp; try with_reducible rfl
          try simp only [Act.put, tdy]
        refine wpAnyH_ready (rs := [11]) (by kernel_rfl) (by simp) ?_
        refine AllReadyH.cons rfl (fun K hK => ?_) AllReadyH.nil
        go_simp
        refine (HRN.out _ hkk).mono ?_
        rintro e w5 ⟨rv, rfl, hrv, hk5⟩
        have hk35 := hkk.trans (hk5.mono (fun _ _ f => f.elim))
        refine hK.out _ _ hk35 (fun hHeld => ?_)
        clear hK K
        try simp only [Act.put, tdy]
        refine wpAnyH_ready (rs := [12]) (by kernel_rfl) (by simp) ?_
        refine AllReadyH.cons rfl (fun K hK => ?_) AllReadyH.nil
        go_simp
        refine (same_true _ _ _ w5 _ _ (HXL.out _ hk35) hrv HLEN.out).mono ?_
        rintro e w6 ⟨rfl, hk6⟩
        have hk36 := hk35.trans (hk6.mono (fun _ _ f => f.elim))
        refine hK.out _ _ hk36 (fun hHeld => ?_)
        clear hK K
        try simp only [Act.put, tdy]
        iterate 2
          refine tkn (v := ?_) 13 rfl ?_ ?_; rotate_left 1
          · intro w hSw; obtain ⟨⟨a0, a1, a2⟩, ⟨d0, d1, d2⟩, b0, b1⟩ := HSY.out w hSw; go_simp; try with_reducible rfl
          try simp only [Act.put, tdy]
        refine wpAnyH_done (by kernel_rfl) ?_ _
        have HKb : Hid (Kept (fun _ => False) W w6) := (((HKa.out.trans HKLa.out).trans HK3.out)).step hk36 (fun i hi e => HLK.out i (Nat.lt_of_lt_of_le hi HKa.out.size) e)
        clear hkk hk35 hk36 hk4 hk5 hk6 hrv hKd hHeld HHE HRN HSY HXL HOL HLEN HSX HLK HLQa HPLa HLBa HSZa HXa HKLa HK3
        have HLDb := hid_of (lend_q _ p w6 B (HPG.out.kept HKb.out (fun _ _ f => f)) (Nat.le_trans HBB.out (Nat.le_trans HKW.out.size HKb.out.size)) HO.out)
        have hb0 := box_kept HKb.out HB1.out (fun f => f)
        have c0 := cell_block _ _ 0 _ _ _ hb0
        have c1 := cell_block _ _ 1 _ _ _ hb0
        have c2 := cell_block _ _ 2 _ _ _ hb0
        clear hb0
        go_wp2_with fail
        refine HLDb.out.mono ?_
        rintro e wlb ⟨hkl, gdb, dlb, gfb, flb, cvsb, rfl, hlq⟩
        rw [HLV.out]
        have hpl := hlq.pg
        rw [HLV.out] at hpl
        have HXb := hid_of (heap_alloc_new wlb (.cells #[.int .i64 mem, .slice (some ⟨gdb, 0, none⟩) nd dlb, .slice (some ⟨gfb, 0, none⟩) nf flb] 25))
        have hka : Kept (fun _ => False) wlb (wlb.alloc (.cells #[.int .i64 mem, .slice (some ⟨gdb, 0, none⟩) nd dlb, .slice (some ⟨gfb, 0, none⟩) nf flb] 25)) := (Kept.refl _ _).alloc _
        have HKLb := hid_of (hkl.trans hka)
        have HLQb := hid_of (hlq.kept hka (fun _ _ f => f))
        have HPLb := hid_of (hpl.kept hka (fun _ _ f => f))
        have HLBb : Hid (∀ q, LBlk gdb gfb cvsb q → w6.heap.size ≤ q ∧ q < wlb.heap.size) := fun q hq => hlq.blk hq
        have HSZb : Hid (wlb.heap.size ≤ (wlb.alloc (.cells #[.int .i64 mem, .slice (some ⟨gdb, 0, none⟩) nd dlb, .slice (some ⟨gfb, 0, none⟩) nf flb] 25)).heap.size) := hka.size
        clear hkl hlq hpl hka HLDb c0 c1 c2
        go_upto_region 11 with fail
        generalize wlb.alloc (.cells #[.int .i64 mem, .slice (some ⟨gdb, 0, none⟩) nd dlb, .slice (some ⟨gfb, 0, none⟩) nf flb] 25) = w7 at *
        generalize wlb.heap.size = g8 at *
        have HSX : Hid (∀ w', Kept (fun _ => False) w7 w' → w'.cell? ⟨g8, 0, none⟩ = some (.int .i64 mem) ∧ w'.cell? ⟨g8, 1, none⟩ = some (.slice (some ⟨gdb, 0, none⟩) nd dlb) ∧ w'.cell? ⟨g8, 2, none⟩ = some (.slice (some ⟨gfb, 0, none⟩) nf flb) ∧ w'.cell? ⟨sg, so + k * 2, none⟩ = some (.int .i64 sf) ∧ w'.cell? ⟨sg, so + k * 2 + 1, none⟩ = some (.int .i64 sa) ∧ w'.cell? ⟨gb, 0, none⟩ = some (.int .i64 mem) ∧ w'.cell? ⟨gb, 1, none⟩ = some (.slice dao nd dc) ∧ w'.cell? ⟨gb, 2, none⟩ = some (.slice fao nf fc)) := fun w' hw => by
          have hbx := box_kept ((HKb.out.trans HKLb.out).trans hw) HB1.out (fun f => f)
          exact ⟨hw.cell (cell_block _ _ 0 _ _ _ HXb.out) (fun f => f), hw.cell (cell_block _ _ 1 _ _ _ HXb.out) (fun f => f), hw.cell (cell_block _ _ 2 _ _ _ HXb.out) (fun f => f), (((HKb.out.trans HKLb.out).trans hw).cell HS0.out (fun f => f)), (((HKb.out.trans HKLb.out).trans hw).cell HS1.out (fun f => f)), cell_block _ _ 0 _ _ _ hbx, cell_block _ _ 1 _ _ _ hbx, cell_block _ _ 2 _ _ _ hbx⟩
        obtain ⟨tk, htk⟩ : ∃ z, z = (takesD p sf sa).1 := ⟨_, rfl⟩
        obtain ⟨tg, htg⟩ : ∃ z, z = (takesD p sf sa).2 := ⟨_, rfl⟩
        have HCT : Hid (∀ W', Kept (fun _ => False) w7 W' → Calls Tryz.prog 20 #[.agg #[.int .i64 mem, .slice (some ⟨gdb, 0, none⟩) nd dlb, .slice (some ⟨gfb, 0, none⟩) nf flb], .agg #[.int .i64 sf, .int .i64 sa]] W' fun e w' => e = .returned (.tuple #[.int .i64 tk, .int .i64 tg]) ∧ Kept (fun _ => False) W' w') := fun W' hW' => by
          have h9 := ctakes_any _ p W' _ (HPLb.out.kept hW' (fun _ _ f => f)) (Nat.le_trans HSZb.out hW'.size) HO.out sf sa
          rw [← htk, ← htg] at h9
          exact h9
        have HRT : Hid (∀ W', Kept (fun _ => False) w7 W' → Calls Tryz.prog 21 #[.agg #[.int .i64 mem, .slice dao nd dc, .slice fao nf fc], .agg #[.int .i64 sf, .int .i64 sa]] W' fun e w' => e = .returned (.tuple #[.int .i64 tk, .int .i64 tg]) ∧ Kept (fun _ => False) W' w') := fun W' hW' => by
          have h9 := rtakes_any _ p W' B (HPG.out.kept ((HKb.out.trans HKLb.out).trans hW') (fun _ _ f => f)) (Nat.le_trans HBB.out (Nat.le_trans HKW.out.size ((HKb.out.trans HKLb.out).trans hW').size)) HO.out sf sa
          rw [HTS.out, ← htk, ← htg] at h9
          exact h9
        clear htk htg
        refine wp_region_held_drew (S := fun w' => Kept (fun _ => False) w7 w') (by kernel_rfl) ((Kept.refl _ _).drew) (fun hHeld => ?_)
        iterate 5
          refine tkn (v := ?_) 0 rfl ?_ ?_; rotate_left 1
          · intro w hSw; obtain ⟨a0, a1, a2, b0, b1, d0, d1, d2⟩ := HSX.out w hSw; go_simp; try with_reducible rfl
          try simp only [Act.put, tdy]
        refine wpAnyH_ready (rs := [5]) (by kernel_rfl) (by simp) ?_
        refine AllReadyH.cons rfl (fun K hK => ?_) AllReadyH.nil
        go_simp
        refine (HCT.out _ hHeld).mono ?_
        rintro e w8 ⟨rfl, hk8⟩
        have hk78 := hHeld.trans hk8
        refine hK.out _ _ hk78 (fun hHeld => ?_)
        clear hK K
        try simp only [Act.put, tdy]
        iterate 5
          refine tkn (v := ?_) 6 rfl ?_ ?_; rotate_left 1
          · intro w hSw; obtain ⟨a0, a1, a2, b0, b1, d0, d1, d2⟩ := HSX.out w hSw; go_simp; try with_reducible rfl
          try simp only [Act.put, tdy]
        refine wpAnyH_done (by kernel_rfl) ?_ _
        clear hk8 hHeld
        go_upto_region 12 with fail
        refine wp_region_held_drew (S := fun w' => Kept (fun _ => False) w7 w') (by kernel_rfl) (hk78.drew) (fun hHeld => ?_)
        iterate 5
          refine tkn (v := ?_) 0 rfl ?_ ?_; rotate_left 1
          · intro w hSw; obtain ⟨a0, a1, a2, b0, b1, d0, d1, d2⟩ := HSX.out w hSw; go_simp; try with_reducible rfl
          try simp only [Act.put, tdy]
        refine wpAnyH_ready (rs := [5]) (by kernel_rfl) (by simp) ?_
        refine AllReadyH.cons rfl (fun K hK => ?_) AllReadyH.nil
        go_simp
        refine (HRT.out _ hHeld).mono ?_
        rintro e w9 ⟨rfl, hk9⟩
        have hk79 := hHeld.trans hk9
        refine hK.out _ _ hk79 (fun hHeld => ?_)
        clear hK K
        try simp only [Act.put, tdy]
        iterate 5
          refine tkn (v := ?_) 6 rfl ?_ ?_; rotate_left 1
          · intro w hSw; obtain ⟨a0, a1, a2, b0, b1, d0, d1, d2⟩ := HSX.out w hSw; go_simp; try with_reducible rfl
          try simp only [Act.put, tdy]
        refine wpAnyH_done (by kernel_rfl) ?_ _
        obtain ⟨a0, a1, a2, b0, b1, d0, d1, d2⟩ := HSX.out w9 hk79
        have HHE := held_q w6.heap.size gdb dlb gfb flb cvsb (.agg #[.int .i64 mem, .slice dao nd dc, .slice fao nf fc]) p w9 B (HLQb.out.kept hk79 (fun _ _ f => f)) (HPG.out.kept ((HKb.out.trans HKLb.out).trans hk79) (fun _ _ f => f)) (Nat.le_trans HBB.out (Nat.le_trans HKW.out.size HKb.out.size)) (HKLb.out.trans hk79).size HO.out
        rw [HLV.out] at HHE
        have HHF := hid_of HHE
        have HK79 := hid_of hk79
        clear HHE hk78 hk9 hk79 hHeld HCT HRT HSX b0 b1
        go_wp2_with fail
        refine HHF.out.mono ?_
        rintro e w10 ⟨rfl, hk10⟩
        have HKN : Hid (Kept (fun _ => False) W w10) := ((HKb.out.trans HKLb.out).trans HK79.out).step hk10 (fun i hi e => by have := (HLBb.out _ e).1; have := HKb.out.size; omega)
        clear hk10 a0 a1 a2 d0 d1 d2 HHF HK79 HLQb HPLb HLBb HSZb HXb HKLb HKb HKa
        go_wp2
        go_roundw
        case rel => exact ⟨k + 1, by omega, by go_num, HKN⟩
        case measure => simp [intOf]; omega
      · have hltI : ¬ ((k : Int) < (n : Int)) := by omega
        go_wp2_with fail
        refine (head_any wr).mono ?_
        rintro e w9 ⟨rfl, hk9⟩
        have HK9 := hid_of ((HKW.out.trans HKR.out).trans hk9)
        clear hk9
        go_wp2
        go_ret
        exact ⟨rfl, HK9.out⟩
  · have hcb : (ck != 0) = true := by simpa using hcz
    go_wp2_with fail
    refine (head_any w1).mono ?_
    rintro e w9 ⟨rfl, hk9⟩
    have HK9 := hid_of ((HKW.out.trans HK1.out).trans hk9)
    clear hk9
    go_wp2
    go_ret
    exact ⟨rfl, HK9.out⟩
end Go.Proofs.YtcaadgcfceommaaGreat

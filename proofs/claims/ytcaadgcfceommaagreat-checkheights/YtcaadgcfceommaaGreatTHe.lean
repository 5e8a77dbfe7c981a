/-
  THe: He.
-/
import Derived.Test.YtcaadgcfceommaaGreatTHe0
namespace Go.Proofs.YtcaadgcfceommaaGreat
open Go.RowKit
set_option linter.unusedVariables false
set_option linter.unusedSimpArgs false
set_option maxRecDepth 100000

theorem bool_no {b : Bool} (h : b = true → False) : b = false := by cases b; rfl; exact (h rfl).elim
theorem next_len' (p : PG) (sf sa : Int) : (nextD p sf sa).length ≤ 10000 := by
  unfold nextD
  cases instrD p sf sa with
  | none => simp
  | some xf =>
    obtain ⟨x, f⟩ := xf
    have h1 := way_len x sa
    refine Nat.le_trans (List.length_filter_le _ _) (by omega)
set_option maxHeartbeats 32000000 in
theorem tried_any (v u : Value) (p : PG) (ns : List Int) (w : World) (B : Nat) (h : PgIs w B v p) (hB : B ≤ w.heap.size) (ho : p.Ok) (hu : RowN w u ns) (hnr : ∀ x ∈ ns, -9223372036854775808 ≤ x ∧ x < 9223372036854775808) (hnl : ns.length ≤ 17592186043904) (hpok : ∀ f ∈ p.fns, FnOk p f) (k : Nat) (f : FN) (hfk : p.fns[k]? = some f) :
    Calls Tryz.prog 24 #[v, .int .i64 (k : Int), u] w (TriedR p f w) := by
  have hpg := h
  have hfm := List.mem_of_getElem? hfk
  have hfo := hpok f hfm
  have hss := steps_ok p f hfo hpok
  obtain ⟨dv, fv, rfl, hd, hdl, hf⟩ := h
  obtain ⟨dao, dc, rfl⟩ := hd.shape
  obtain ⟨fao, fc, rfl⟩ := hf.shape
  obtain ⟨pao, pc, rfl⟩ := hu.shape
  obtain ⟨nf, hnf⟩ : ∃ n, n = p.fns.length := ⟨_, rfl⟩
  obtain ⟨nd, hnd⟩ : ∃ n, n = p.data.length := ⟨_, rfl⟩
  obtain ⟨mem, hmem⟩ : ∃ n, n = p.mem := ⟨_, rfl⟩
  obtain ⟨np, hnp⟩ : ∃ n, n = ns.length := ⟨_, rfl⟩
  rw [← hnf, ← hnd, ← hmem] at hpg ⊢
  rw [← hnf] at hf
  rw [← hnp] at hu hnl ⊢
  obtain ⟨pg, po, cg, co, cc, rfl, y0, y1, y2, y3, hri, hpgB, hcgB⟩ := row_instr hf hfk (List.getElem?_eq_getElem (show 0 < f.code.length by have := hfo.n.1; omega))
  obtain ⟨nc, hnc⟩ : ∃ z, z = f.code.length := ⟨_, rfl⟩
  obtain ⟨fr, hfr⟩ : ∃ z, z = f.r := ⟨_, rfl⟩
  have hn1 := hfo.n
  have hrr := hfo.r
  rw [← hnc] at y3 hri hn1 hss
  rw [← hfr] at y2 hrr
  obtain ⟨gb, hgb⟩ : ∃ g, g = w.heap.size := ⟨_, rfl⟩
  obtain ⟨W, hW⟩ : ∃ W, W = w.alloc (.cells #[.int .i64 mem, .slice dao nd dc, .slice (some ⟨pg, po, none⟩) nf fc] 25) := ⟨_, rfl⟩
  have k1 : Kept (fun _ => False) w W := by rw [hW]; exact (Kept.refl _ _).alloc _
  have x1 : W.heap[gb]? = some (.cells #[.int .i64 mem, .slice dao nd dc, .slice (some ⟨pg, po, none⟩) nf fc] 25 (0, 0)) := by rw [hW, hgb]; exact heap_alloc_new w _
  have hkn : (k : Int) < (nf : Int) := by have := (List.getElem?_eq_some_iff.1 hfk).1; omega
  have hncI : (nc : Int) ≤ 4096 := by omega
  have hnpI : (np : Int) ≤ 17592186043904 := by omega
  have HKW := hid_of k1
  have HGB := hid_of hgb
  have HPG := hid_of hpg
  have HBB := hid_of hB
  have HO := hid_of ho
  have HSS := hid_of hss
  have HFO := hid_of hfo
  have HFK := hid_of hfk
  have HNC := hid_of hnc
  have HFR := hid_of hfr
  have HRI := hid_of hri
  have HY2 := hid_of y2
  have HU := hid_of hu
  have HNR := hid_of hnr
  have HNP := hid_of hnp
  have HPO := hid_of hpok
  have c2 := cell_block _ _ 2 _ _ _ x1
  have y3W := k1.cell y3 (fun f => f)
  have hmk := makeInt W nc (by omega)
  obtain ⟨W1, hW1⟩ : ∃ W1, W1 = W.alloc (.cells (zint nc) 3) := ⟨_, rfl⟩
  obtain ⟨gh, hgh⟩ : ∃ g, g = W.heap.size := ⟨_, rfl⟩
  have k2 : Kept (fun _ => False) W W1 := by rw [hW1]; exact (Kept.refl _ _).alloc _
  have hgb1 : gb < W.heap.size := (Array.getElem?_eq_some_iff.1 x1).1
  have HI0 : Hid (TdK w W1 gb gh nc #[.int .i64 mem, .slice dao nd dc, .slice (some ⟨pg, po, none⟩) nf fc] (.slice none 0 0) (List.replicate nc 0) []) := by
    have hb2 : W1.heap[gh]? = some (.cells (zint nc) 3 (0, 0)) := by rw [hW1, hgh]; exact heap_alloc_new W _
    refine ⟨box_kept k2 x1 (fun f => f), ?_, World.ownsRow_nil _ _ _ _, by simp [Value.ownBlock], k1.trans k2, by simp⟩
    have h9 := own_zint W1 w.heap.size gh nc hb2 (by rw [hgh]; exact k1.size) (by omega)
    show World.ownsRow _ _ _ _ _ _ _
    rw [List.length_replicate]
    exact h9
  clear x1 k1 k2 y0 y1 y2 y3 hri hd hdl hf hnf hnd hmem ho hB hu hnp hnr hpg hfm hfo hss hpgB hcgB hnc hfr hfk hpok hgb1
  go_enter Tryz.func24, Tryz.ntmps24
  go_upto_region 1 with fail
  rw [← hW, ← hgb]
  clear hW hgb
  go_wp2_with fail
  rw [← hW1, ← hgh]
  clear c2 y3W hmk hW1 hgh
  go_loopw [10] (fun iv wr => ∃ (i : Nat) (hs : List Int), 1 ≤ i ∧ i ≤ nc ∧ iv = .int .i64 (i : Int) ∧ Hid (TdK w wr gb gh nc #[.int .i64 mem, .slice dao nd dc, .slice (some ⟨pg, po, none⟩) nf fc] (.slice none 0 0) hs []) ∧ Hid (∀ j, j < nc → hs.getD j 0 = if j < i then (if j = 0 then 0 else -1) else 0)) (fun iv _ => nc - (intOf iv).toNat)
  case atStart =>
    refine ⟨1, List.replicate nc 0, by omega, by omega, rfl, HI0, fun j hj => ?_⟩
    rw [show (List.replicate nc (0 : Int)).getD j 0 = 0 by simp [List.getD, hj]]
    by_cases e : j < 1
    · rw [if_pos e, if_pos (by omega)]
    · rw [if_neg e]
  case round =>
    clear HI0
    obtain ⟨i, hs, hi1, hi, rfl, HTK, HHS⟩ := hrel
    by_cases hlt : i < nc
    · have hltI : (i : Int) < (nc : Int) := by omega
      obtain ⟨q0, q1⟩ := HTK.out.hAt hlt
      have HT2 := hid_of (HTK.out.setH i (-1))
      have HH2 : Hid (∀ j, j < nc → (hs.set i (-1)).getD j 0 = if j < i + 1 then (if j = 0 then 0 else -1) else 0) := fun j hj => by
        by_cases e : i = j
        · subst e
          rw [getD_set_eq _ (by rw [HTK.out.hl]; exact hj), if_pos (by omega), if_neg (by omega)]
        · rw [getD_set_ne _ e, HHS.out j hj]
          by_cases e2 : j < i
          · rw [if_pos e2, if_pos (show j < i + 1 by omega)]
          · rw [if_neg e2, if_neg (show ¬ j < i + 1 by omega)]
      clear HTK HHS
      go_wp2
      go_roundw
      case rel => exact ⟨i + 1, _, by omega, by omega, by go_num, HT2, HH2⟩
      case measure => simp [intOf]; omega
    · have hltI : ¬ ((i : Int) < (nc : Int)) := by omega
      have hsE : hs = (List.replicate nc (-1)).set 0 0 := by
        apply List.ext_getElem (by rw [HTK.out.hl]; simp)
        intro j h1 h2
        have hj : j < nc := by rw [← HTK.out.hl]; exact h1
        have g1 : hs.getD j 0 = hs[j] := by simp [List.getD, List.getElem?_eq_getElem h1]
        rw [← g1, HHS.out j hj, if_pos (by omega)]
        by_cases e : j = 0
        · subst e; simp
        · rw [if_neg e, List.getElem_set_ne (Ne.symm e)]; simp
      obtain ⟨gr, cr, w2, hr, hT2, _, _⟩ := (show TdK w wr gb gh nc #[.int .i64 mem, .slice dao nd dc, .slice (some ⟨pg, po, none⟩) nf fc] (.slice none 0 0) ((List.replicate nc (-1)).set 0 0) [] by rw [← hsE]; exact HTK.out).push 0 (by simp)
      have HT3 : Hid (TdK w (wr.alloc (.cells #[.int .i64 0] 3)) gb gh nc #[.int .i64 mem, .slice dao nd dc, .slice (some ⟨pg, po, none⟩) nf fc] (.slice (some ⟨wr.heap.size, 0, none⟩) 1 1) ((List.replicate nc (-1)).set 0 0) [0]) := by
        have h9 : TdK w wr gb gh nc #[.int .i64 mem, .slice dao nd dc, .slice (some ⟨pg, po, none⟩) nf fc] (.slice none 0 0) ((List.replicate nc (-1)).set 0 0) [] := by rw [← hsE]; exact HTK.out
        have h8 := h9.same (w' := wr.alloc (.cells #[.int .i64 0] 3)) ((Kept.refl _ _).alloc _)
        refine ⟨h8.box, h8.hr, ?_, ?_, h8.kept, h8.hl⟩
        · exact ⟨rfl, .inr ⟨wr.heap.size, 1, #[.int .i64 0], rfl, h9.kept.size, heap_alloc_new wr _, Nat.le_refl _, by decide, by simp, rfl⟩⟩
        · intro e
          have e' : wr.heap.size = gh := Option.some.inj e
          have := (h9.hr.lt gh rfl).2
          omega
      have HP0 := hid_of (TdP.start (stepsL p f) nc hn1.1)
      clear hr hT2 hsE HTK HHS
      go_wp2_with fail
      generalize wr.alloc (.cells #[.int .i64 0] 3) = w3 at *
      generalize wr.heap.size = g0 at *
      go_loopw [11, 12] (fun rv nv wr => ∃ (g c ll : Nat) (hs l : List Int) (n : Nat), rv = .slice (some ⟨g, 0, none⟩) ll c ∧ nv = .int .i64 (n : Int) ∧ Hid (ll = l.length) ∧ Hid (TdK w wr gb gh nc #[.int .i64 mem, .slice dao nd dc, .slice (some ⟨pg, po, none⟩) nf fc] (.slice (some ⟨g, 0, none⟩) ll c) hs l) ∧ Hid (TdP (stepsL p f) nc hs l n)) (fun _ nv _ => nc - (intOf nv).toNat)
      case atStart => exact ⟨g0, 1, 1, (List.replicate nc (-1)).set 0 0, [0], 0, rfl, rfl, rfl, HT3, HP0⟩
      case round =>
        clear HT3 HP0
        obtain ⟨g, c, ll, hs, l, n, rfl, rfl, HLL, HTK, HTP⟩ := hrel
        by_cases hl0 : 0 < ll
        · have hl0I : (0 : Int) < (ll : Int) := by omega
          have hnn : n < nc := by have := HTP.out.cnt; have := HLL.out; omega
          have hllb : ll ≤ nc := by have := HTP.out.cnt; have := HLL.out; omega
          go_upto_if 48 with fail
          go_cut [13] from 41 to 198 (fun v13 wx => ∃ kk : Nat, kk < ll ∧ v13 = .int .i64 (kk : Int) ∧ wx = wr)
          case first =>
            as_aux_lemma =>
              by_cases hp : 0 < np
              · have hpI : (0 : Int) < (np : Int) := by omega
                have hpz : ¬ ((np : Int) = 0) := by omega
                obtain ⟨j, hj⟩ : ∃ j, j = n % np := ⟨_, rfl⟩
                have hjp : j < np := by rw [hj]; exact Nat.mod_lt _ hp
                have htm : Int.tmod (n : Int) (np : Int) = (j : Int) := by rw [hj]; rfl
                have hjw : IntKind.i64.wrap (j : Int) = (j : Int) := by simp [IntKind.wrap, IntKind.bits, IntKind.signed]; omega
                have hjI : (j : Int) < (np : Int) := by omega
                obtain ⟨ng, no, z, e9, hzc, hzr⟩ : ∃ (ng no : Nat) (z : Int), pao = some ⟨ng, no, none⟩ ∧ wr.cell? ⟨ng, no + j, none⟩ = some (.int .i64 z) ∧ (-9223372036854775808 ≤ z ∧ z < 9223372036854775808) := by
                  have hjn : j < ns.length := by rw [← HNP.out]; exact hjp
                  rcases HU.out with ⟨e, _⟩ | ⟨g1, o1, c1, e, _, hc1⟩
                  · rw [e] at hjn; simp at hjn
                  · cases e
                    exact ⟨g1, o1, ns[j], rfl, HTK.out.kept.cell (hc1 j _ (List.getElem?_eq_getElem hjn)) (fun f => f), HNR.out _ (List.getElem_mem hjn)⟩
                subst e9
                have HRD := hid_of (rnd_any z ll wr hzr.1 hzr.2 hl0 (by omega))
                clear hj
                go_wp2_with fail
                refine HRD.out.mono ?_
                rintro e w9 ⟨⟨kk, hkk, rfl⟩, rfl⟩
                clear HRD hzc htm hjw
                go_wp2_with fail
                go_meet
                exact ⟨kk, hkk, rfl, rfl⟩
              · have hp0 : np = 0 := by omega
                have hpI : ¬ ((0 : Int) < (np : Int)) := by omega
                have hpb : decide ((0 : Int) < (np : Int)) = false := by simp; omega
                clear hp0
                go_wp2_with fail
                go_meet
                exact ⟨0, hl0, rfl, rfl⟩
          case rest =>
            as_aux_lemma =>
              obtain ⟨kk, hkk, rfl, hwc⟩ := hcut
              have hwc2 := hwc.symm
              clear hwc
              subst hwc2
              obtain ⟨l1, hl1⟩ : ∃ l1, ll = l1 + 1 := ⟨ll - 1, by omega⟩
              subst hl1
              have hkl : kk < l.length := by rw [← HLL.out]; exact hkk
              obtain ⟨e1, e2, e3⟩ := HTP.out.el _ (getD_mem hkl)
              obtain ⟨at', hat⟩ : ∃ a : Nat, l.getD kk 0 = (a : Int) := ⟨(l.getD kk 0).toNat, by omega⟩
              rw [hat] at e1 e2 e3
              simp only [Int.toNat_natCast] at e3
              have hatn : at' < nc := by omega
              have hatI : (at' : Int) < (nc : Int) := by omega
              obtain ⟨x, hx⟩ : ∃ x, f.code[at']? = some x := ⟨_, List.getElem?_eq_getElem (by rw [← HNC.out]; exact hatn)⟩
              have hxm := List.mem_of_getElem? hx
              obtain ⟨z0, z1⟩ := rowI_cell HRI.out hx
              obtain ⟨q0, qf⟩ := HTK.out.rAt HLL.out hkk
              rw [hat] at q0
              obtain ⟨q1, _⟩ := HTK.out.rAt HLL.out (show l1 < l1 + 1 by omega)
              obtain ⟨lz, hlz⟩ : ∃ z, z = l.getD l1 0 := ⟨_, rfl⟩
              rw [← hlz] at q1
              have hcap : l1 + 1 ≤ c := by
                have h9 := own_capN HTK.out.rr
                omega
              have hl1I : (l1 : Int) ≤ (c : Int) := by omega
              have hkkI : (kk : Int) < (l1 : Int) + 1 := by omega
              have HT2 : Hid (TdK w (wr.setCell ⟨g, kk, none⟩ (.int .i64 lz)) gb gh nc #[.int .i64 mem, .slice dao nd dc, .slice (some ⟨pg, po, none⟩) nf fc] (.slice (some ⟨g, 0, none⟩) l1 c) hs (pickL l kk)) := by
                have h9 := (HTK.out.setR HLL.out kk lz).cut (by rw [List.length_set]; exact HLL.out) l1 (by omega)
                have e : (l.set kk lz).take l1 = pickL l kk := by unfold pickL; rw [hlz, ← HLL.out, Nat.add_sub_cancel]
                rw [e] at h9
                exact h9
              have HT3 := hid_of (HT2.out.same ((Kept.refl (fun _ => False) _).alloc (.cells #[.int .i64 (k : Int), .int .i64 (at' : Int)] 36)))
              have hx6 := heap_alloc_new (wr.setCell ⟨g, kk, none⟩ (.int .i64 lz)) (.cells #[.int .i64 (k : Int), .int .i64 (at' : Int)] 36)
              rw [show (wr.setCell ⟨g, kk, none⟩ (.int .i64 lz)).heap.size = wr.heap.size by simp] at hx6
              have HX6 := hid_of hx6
              clear hx6
              have HHA := hid_of (HTP.out.lo _ (getD_mem (show at' < hs.length by rw [HTP.out.len]; exact hatn)))
              have HAT := hid_of hat
              have HE3 := hid_of e3
              have HX := hid_of hx
              have HZ0 := hid_of z0
              have HZ1 := hid_of z1
              have HKL := hid_of hkl
              have HL1 : Hid (l1 = (pickL l kk).length) := by unfold Hid; rw [pickL_len, ← HLL.out]; omega
              have HST := hid_of (HFO.out.str x hxm)
              have HTK0 := HTK
              clear e1 e2 e3 hat hx hxm z0 z1 hlz hcap HT2 HTK hkl
              go_upto_region 18 with fail
              clear q0 q1 qf HTK0
              generalize (wr.setCell ⟨g, kk, none⟩ (.int .i64 lz)).alloc (.cells #[.int .i64 (k : Int), .int .i64 (at' : Int)] 36) = w2 at *
              generalize wr.heap.size = gs at *
              obtain ⟨tk, htk⟩ : ∃ z, z = (tkgv p f x).1 := ⟨_, rfl⟩
              obtain ⟨gv, hgv⟩ : ∃ z, z = (tkgv p f x).2 := ⟨_, rfl⟩
              have hrng := tkgv_rng p f x HFO.out HPO.out
              rw [← htk, ← hgv] at hrng
              have hTD : takesD p (k : Int) (at' : Int) = tkgv p f x := by unfold takesD; rw [instr_at HFK.out HX.out]
              have hCT := ctakes_any _ p w2 B (HPG.out.kept HT3.out.kept (fun _ _ f => f)) (Nat.le_trans HBB.out HT3.out.kept.size) HO.out (k : Int) (at' : Int)
              rw [hTD, ← htk, ← hgv] at hCT
              have HCT := hid_of hCT
              have c0 := cell_block _ _ 0 _ _ _ HT3.out.box
              have c1 := cell_block _ _ 1 _ _ _ HT3.out.box
              have c2 := cell_block _ _ 2 _ _ _ HT3.out.box
              have s0 := cell_block _ _ 0 _ _ _ HX6.out
              have s1 := cell_block _ _ 1 _ _ _ HX6.out
              obtain ⟨ha, hha⟩ : ∃ z, z = hs.getD at' 0 := ⟨_, rfl⟩
              obtain ⟨bh, hbh⟩ : ∃ z, z = ha - tk + gv := ⟨_, rfl⟩
              have hhr := HHA.out
              rw [← hha] at hhr
              have HHE := hid_of hha
              have HBH := hid_of hbh
              have HTKE := hid_of htk
              have HGVE := hid_of hgv
              have HSB : Hid (behindS (stepAt p f at' x) ha = bh) := by unfold Hid behindS; rw [hbh, htk, hgv]; rfl
              clear hCT hTD htk hgv hha hbh
              go_wp2_with fail
              refine HCT.out.mono ?_
              rintro e w3 ⟨rfl, hk3⟩
              have HT4 := hid_of (HT3.out.same hk3)
              have HX7 := hid_of (box_kept hk3 HX6.out (fun f => f))
              clear c0 c1 c2 s0 s1 hk3 HCT HT3 HX6
              obtain ⟨d0, _⟩ := HT4.out.hAt hatn
              rw [← HHE.out] at d0
              go_upto_region 20 with fail
              rw [← HBH.out]
              clear d0
              obtain ⟨wt, hwt⟩ : ∃ z, z = wantsS (stepAt p f at' x) := ⟨_, rfl⟩
              obtain ⟨xo, hxo⟩ : ∃ z, z = x.op := ⟨_, rfl⟩
              obtain ⟨xa, hxa⟩ : ∃ z, z = x.a := ⟨_, rfl⟩
              have HXO := hid_of hxo
              have HXA := hid_of hxa
              have HWE := hid_of hwt
              rw [← hxo] at HZ0
              rw [← hxa] at HZ1
              have HSX : Hid (∀ w', Kept (fun _ => False) w3 w' → w'.cell? ⟨gb, 0, none⟩ = some (.int .i64 mem) ∧ w'.cell? ⟨gb, 1, none⟩ = some (.slice dao nd dc) ∧ w'.cell? ⟨gb, 2, none⟩ = some (.slice (some ⟨pg, po, none⟩) nf fc) ∧ w'.cell? ⟨gs, 0, none⟩ = some (.int .i64 (k : Int)) ∧ w'.cell? ⟨gs, 1, none⟩ = some (.int .i64 (at' : Int)) ∧ w'.cell? ⟨gh, at', none⟩ = some (.int .i64 ha) ∧ w'.cell? ⟨cg, co + at' * 2, none⟩ = some (.int .i64 xo) ∧ w'.cell? ⟨pg, po + k * 4 + 2, none⟩ = some (.int .i64 fr)) := fun w' hw => by
                have h9 := HT4.out.same hw
                have h8 := (h9.hAt hatn).1
                rw [← HHE.out] at h8
                exact ⟨cell_block _ _ 0 _ _ _ h9.box, cell_block _ _ 1 _ _ _ h9.box, cell_block _ _ 2 _ _ _ h9.box, hw.cell (cell_block _ _ 0 _ _ _ HX7.out) (fun f => f), hw.cell (cell_block _ _ 1 _ _ _ HX7.out) (fun f => f), h8, h9.kept.cell HZ0.out (fun f => f), h9.kept.cell HY2.out (fun f => f)⟩
              have HWT : Hid (∀ W', Kept (fun _ => False) w3 W' → Calls Tryz.prog 56 #[.agg #[.int .i64 mem, .slice dao nd dc, .slice (some ⟨pg, po, none⟩) nf fc], .agg #[.int .i64 (k : Int), .int .i64 (at' : Int)]] W' fun e w' => e = .returned (.int .i64 wt) ∧ Kept (fun _ => False) W' w') := fun W' hW' => by
                have h9 := HT4.out.same hW'
                rw [hwt]
                exact lwants_any _ p W' B (HPG.out.kept h9.kept (fun _ _ f => f)) (Nat.le_trans HBB.out h9.kept.size) HO.out k at' f x HFK.out HX.out (HSS.out.stb _ (List.mem_of_getElem? (steps_at HX.out))).a
              obtain ⟨bad, hbad⟩ : ∃ b, b = decide (ha < wt ∨ 256 < bh ∨ (xo = 18 ∧ ha ≠ fr)) := ⟨_, rfl⟩
              have HBAD := hid_of hbad
              clear hbad hwt hxo hxa
              go_cut [126] from 41 to 198 (fun v126 wx => v126 = .bool bad ∧ Hid (Kept (fun _ => False) w3 wx))
              case first =>
                as_aux_lemma =>
                  by_cases hc1 : ha < wt
                  · have HBV : Hid (bad = true) := by unfold Hid; rw [HBAD.out]; exact decide_eq_true (.inl hc1)
                    clear HBAD
                    refine wp_region_held_drew (S := fun w' => Kept (fun _ => False) w3 w') (by kernel_rfl) ((Kept.refl _ _).drew) (fun hHeld => ?_)
                    iterate 2
                      refine tkn (v := ?_) 0 rfl ?_ ?_; rotate_left 1
                      · intro w hSw; obtain ⟨a0, a1, a2, b0, b1, d0, e0, r0⟩ := HSX.out w hSw; go_simp; try with_reducible rfl
                      try simp only [Act.put, tdy]
                    iterate 4
                      refine tkn (v := ?_) 3 rfl ?_ ?_; rotate_left 1
                      · intro w hSw; obtain ⟨a0, a1, a2, b0, b1, d0, e0, r0⟩ := HSX.out w hSw; go_simp; try with_reducible rfl
                      try simp only [Act.put, tdy]
                    refine wpAnyH_ready (rs := [2]) (by kernel_rfl) (by simp) ?_
                    refine AllReadyH.cons rfl (fun K hK => ?_) AllReadyH.nil
                    go_simp
                    refine (HWT.out _ hHeld).mono ?_
                    rintro e w4 ⟨rfl, hk4⟩
                    have hkk4 := hHeld.trans hk4
                    refine hK.out _ _ hkk4 (fun hHeld => ?_)
                    clear hK K
                    try simp only [Act.put, tdy]
                    iterate 2
                      refine tkn (v := ?_) 7 rfl ?_ ?_; rotate_left 1
                      · intro w hSw; obtain ⟨a0, a1, a2, b0, b1, d0, e0, r0⟩ := HSX.out w hSw; go_simp; try with_reducible rfl
                      try simp only [Act.put, tdy]
                    iterate 2
                      refine tkm 9 rfl ?_
                      try simp only [Act.put, tdy]
                    iterate 2
                      refine tkn (v := ?_) 11 rfl ?_ ?_; rotate_left 1
                      · intro w hSw; obtain ⟨a0, a1, a2, b0, b1, d0, e0, r0⟩ := HSX.out w hSw; go_simp; try with_reducible rfl
                      try simp only [Act.put, tdy]
                    iterate 19
                      refine tkm 13 rfl ?_
                      try simp only [Act.put, tdy]
                    iterate 1
                      refine tkn (v := ?_) 32 rfl ?_ ?_; rotate_left 1
                      · intro w hSw; obtain ⟨a0, a1, a2, b0, b1, d0, e0, r0⟩ := HSX.out w hSw; go_simp; try with_reducible rfl
                      try simp only [Act.put, tdy]
                    refine wpAnyH_done (by kernel_rfl) ?_ _
                    have HKE := hid_of hkk4
                    clear hkk4 hk4 hHeld
                    go_wp2_with fail
                    go_meet
                    exact ⟨by rw [HBV.out], HKE⟩
                  · have hc1b : decide (ha < wt) = false := by simp; omega
                    by_cases hc2 : 256 < bh
                    · have HBV : Hid (bad = true) := by unfold Hid; rw [HBAD.out]; exact decide_eq_true (.inr (.inl hc2))
                      clear HBAD
                      refine wp_region_held_drew (S := fun w' => Kept (fun _ => False) w3 w') (by kernel_rfl) ((Kept.refl _ _).drew) (fun hHeld => ?_)
                      iterate 2
                        refine tkn (v := ?_) 0 rfl ?_ ?_; rotate_left 1
                        · intro w hSw; obtain ⟨a0, a1, a2, b0, b1, d0, e0, r0⟩ := HSX.out w hSw; go_simp; try with_reducible rfl
                        try simp only [Act.put, tdy]
                      iterate 4
                        refine tkn (v := ?_) 3 rfl ?_ ?_; rotate_left 1
                        · intro w hSw; obtain ⟨a0, a1, a2, b0, b1, d0, e0, r0⟩ := HSX.out w hSw; go_simp; try with_reducible rfl
                        try simp only [Act.put, tdy]
                      refine wpAnyH_ready (rs := [2]) (by kernel_rfl) (by simp) ?_
                      refine AllReadyH.cons rfl (fun K hK => ?_) AllReadyH.nil
                      go_simp
                      refine (HWT.out _ hHeld).mono ?_
                      rintro e w4 ⟨rfl, hk4⟩
                      have hkk4 := hHeld.trans hk4
                      refine hK.out _ _ hkk4 (fun hHeld => ?_)
                      clear hK K
                      try simp only [Act.put, tdy]
                      iterate 2
                        refine tkn (v := ?_) 7 rfl ?_ ?_; rotate_left 1
                        · intro w hSw; obtain ⟨a0, a1, a2, b0, b1, d0, e0, r0⟩ := HSX.out w hSw; go_simp; try with_reducible rfl
                        try simp only [Act.put, tdy]
                      iterate 4
                        refine tkn (v := ?_) 9 rfl ?_ ?_; rotate_left 1
                        · intro w hSw; obtain ⟨a0, a1, a2, b0, b1, d0, e0, r0⟩ := HSX.out w hSw; go_simp; try with_reducible rfl
                        try simp only [Act.put, tdy]
                      iterate 19
                        refine tkm 13 rfl ?_
                        try simp only [Act.put, tdy]
                      iterate 1
                        refine tkn (v := ?_) 32 rfl ?_ ?_; rotate_left 1
                        · intro w hSw; obtain ⟨a0, a1, a2, b0, b1, d0, e0, r0⟩ := HSX.out w hSw; go_simp; try with_reducible rfl
                        try simp only [Act.put, tdy]
                      refine wpAnyH_done (by kernel_rfl) ?_ _
                      have HKE := hid_of hkk4
                      clear hkk4 hk4 hHeld
                      go_wp2_with fail
                      go_meet
                      exact ⟨by rw [HBV.out], HKE⟩
                    · have hc2b : decide (256 < bh) = false := by simp; omega
                      by_cases hc3 : xo = 18
                      · by_cases hc4 : ha = fr
                        · have HBV : Hid (bad = false) := by unfold Hid; rw [HBAD.out]; exact decide_eq_false (fun h9 => h9.elim hc1 (fun h9 => h9.elim hc2 (fun h9 => h9.2 hc4)))
                          have hc4b : (ha != fr) = false := by simpa using hc4
                          have hc3b : (xo == 18) = true := by simpa using hc3
                          clear HBAD hc4 hc3
                          refine wp_region_held_drew (S := fun w' => Kept (fun _ => False) w3 w') (by kernel_rfl) ((Kept.refl _ _).drew) (fun hHeld => ?_)
                          iterate 2
                            refine tkn (v := ?_) 0 rfl ?_ ?_; rotate_left 1
                            · intro w hSw; obtain ⟨a0, a1, a2, b0, b1, d0, e0, r0⟩ := HSX.out w hSw; go_simp; try with_reducible rfl
                            try simp only [Act.put, tdy]
                          iterate 4
                            refine tkn (v := ?_) 3 rfl ?_ ?_; rotate_left 1
                            · intro w hSw; obtain ⟨a0, a1, a2, b0, b1, d0, e0, r0⟩ := HSX.out w hSw; go_simp; try with_reducible rfl
                            try simp only [Act.put, tdy]
                          refine wpAnyH_ready (rs := [2]) (by kernel_rfl) (by simp) ?_
                          refine AllReadyH.cons rfl (fun K hK => ?_) AllReadyH.nil
                          go_simp
                          refine (HWT.out _ hHeld).mono ?_
                          rintro e w4 ⟨rfl, hk4⟩
                          have hkk4 := hHeld.trans hk4
                          refine hK.out _ _ hkk4 (fun hHeld => ?_)
                          clear hK K
                          try simp only [Act.put, tdy]
                          iterate 2
                            refine tkn (v := ?_) 7 rfl ?_ ?_; rotate_left 1
                            · intro w hSw; obtain ⟨a0, a1, a2, b0, b1, d0, e0, r0⟩ := HSX.out w hSw; go_simp; try with_reducible rfl
                            try simp only [Act.put, tdy]
                          iterate 24
                            refine tkn (v := ?_) 9 rfl ?_ ?_; rotate_left 1
                            · intro w hSw; obtain ⟨a0, a1, a2, b0, b1, d0, e0, r0⟩ := HSX.out w hSw; go_simp; try with_reducible rfl
                            try simp only [Act.put, tdy]
                          refine wpAnyH_done (by kernel_rfl) ?_ _
                          have HKE := hid_of hkk4
                          clear hkk4 hk4 hHeld
                          go_wp2_with fail
                          go_meet
                          exact ⟨by rw [HBV.out], HKE⟩
                        · have HBV : Hid (bad = true) := by unfold Hid; rw [HBAD.out]; exact decide_eq_true (.inr (.inr ⟨hc3, hc4⟩))
                          have hc4b : (ha != fr) = true := by simpa using hc4
                          have hc3b : (xo == 18) = true := by simpa using hc3
                          clear HBAD hc4 hc3
                          refine wp_region_held_drew (S := fun w' => Kept (fun _ => False) w3 w') (by kernel_rfl) ((Kept.refl _ _).drew) (fun hHeld => ?_)
                          iterate 2
                            refine tkn (v := ?_) 0 rfl ?_ ?_; rotate_left 1
                            · intro w hSw; obtain ⟨a0, a1, a2, b0, b1, d0, e0, r0⟩ := HSX.out w hSw; go_simp; try with_reducible rfl
                            try simp only [Act.put, tdy]
                          iterate 4
                            refine tkn (v := ?_) 3 rfl ?_ ?_; rotate_left 1
                            · intro w hSw; obtain ⟨a0, a1, a2, b0, b1, d0, e0, r0⟩ := HSX.out w hSw; go_simp; try with_reducible rfl
                            try simp only [Act.put, tdy]
                          refine wpAnyH_ready (rs := [2]) (by kernel_rfl) (by simp) ?_
                          refine AllReadyH.cons rfl (fun K hK => ?_) AllReadyH.nil
                          go_simp
                          refine (HWT.out _ hHeld).mono ?_
                          rintro e w4 ⟨rfl, hk4⟩
                          have hkk4 := hHeld.trans hk4
                          refine hK.out _ _ hkk4 (fun hHeld => ?_)
                          clear hK K
                          try simp only [Act.put, tdy]
                          iterate 2
                            refine tkn (v := ?_) 7 rfl ?_ ?_; rotate_left 1
                            · intro w hSw; obtain ⟨a0, a1, a2, b0, b1, d0, e0, r0⟩ := HSX.out w hSw; go_simp; try with_reducible rfl
                            try simp only [Act.put, tdy]
                          iterate 24
                            refine tkn (v := ?_) 9 rfl ?_ ?_; rotate_left 1
                            · intro w hSw; obtain ⟨a0, a1, a2, b0, b1, d0, e0, r0⟩ := HSX.out w hSw; go_simp; try with_reducible rfl
                            try simp only [Act.put, tdy]
                          refine wpAnyH_done (by kernel_rfl) ?_ _
                          have HKE := hid_of hkk4
                          clear hkk4 hk4 hHeld
                          go_wp2_with fail
                          go_meet
                          exact ⟨by rw [HBV.out], HKE⟩
                      · have HBV : Hid (bad = false) := by unfold Hid; rw [HBAD.out]; exact decide_eq_false (fun h9 => h9.elim hc1 (fun h9 => h9.elim hc2 (fun h9 => hc3 h9.1)))
                        have hc3b : (xo == 18) = false := by simpa using hc3
                        clear HBAD
                        refine wp_region_held_drew (S := fun w' => Kept (fun _ => False) w3 w') (by kernel_rfl) ((Kept.refl _ _).drew) (fun hHeld => ?_)
                        iterate 2
                          refine tkn (v := ?_) 0 rfl ?_ ?_; rotate_left 1
                          · intro w hSw; obtain ⟨a0, a1, a2, b0, b1, d0, e0, r0⟩ := HSX.out w hSw; go_simp; try with_reducible rfl
                          try simp only [Act.put, tdy]
                        iterate 4
                          refine tkn (v := ?_) 3 rfl ?_ ?_; rotate_left 1
                          · intro w hSw; obtain ⟨a0, a1, a2, b0, b1, d0, e0, r0⟩ := HSX.out w hSw; go_simp; try with_reducible rfl
                          try simp only [Act.put, tdy]
                        refine wpAnyH_ready (rs := [2]) (by kernel_rfl) (by simp) ?_
                        refine AllReadyH.cons rfl (fun K hK => ?_) AllReadyH.nil
                        go_simp
                        refine (HWT.out _ hHeld).mono ?_
                        rintro e w4 ⟨rfl, hk4⟩
                        have hkk4 := hHeld.trans hk4
                        refine hK.out _ _ hkk4 (fun hHeld => ?_)
                        clear hK K
                        try simp only [Act.put, tdy]
                        iterate 2
                          refine tkn (v := ?_) 7 rfl ?_ ?_; rotate_left 1
                          · intro w hSw; obtain ⟨a0, a1, a2, b0, b1, d0, e0, r0⟩ := HSX.out w hSw; go_simp; try with_reducible rfl
                          try simp only [Act.put, tdy]
                        iterate 11
                          refine tkn (v := ?_) 9 rfl ?_ ?_; rotate_left 1
                          · intro w hSw; obtain ⟨a0, a1, a2, b0, b1, d0, e0, r0⟩ := HSX.out w hSw; go_simp; try with_reducible rfl
                          try simp only [Act.put, tdy]
                        iterate 11
                          refine tkm 20 rfl ?_
                          try simp only [Act.put, tdy]
                        iterate 2
                          refine tkn (v := ?_) 31 rfl ?_ ?_; rotate_left 1
                          · intro w hSw; obtain ⟨a0, a1, a2, b0, b1, d0, e0, r0⟩ := HSX.out w hSw; go_simp; try with_reducible rfl
                          try simp only [Act.put, tdy]
                        refine wpAnyH_done (by kernel_rfl) ?_ _
                        have HKE := hid_of hkk4
                        clear hkk4 hk4 hHeld
                        go_wp2_with fail
                        go_meet
                        exact ⟨by rw [HBV.out], HKE⟩
              case rest =>
                as_aux_lemma =>
                  obtain ⟨rfl, HK4⟩ := hcut
                  obtain ⟨w4, hw4⟩ : ∃ w, w = wc := ⟨_, rfl⟩
                  subst hw4
                  cases hbv : bad with
                  | true =>
                    as_aux_lemma =>
                      have hbt : ha < wt ∨ 256 < bh ∨ (xo = 18 ∧ ha ≠ fr) := by have h9 := HBAD.out; rw [hbv] at h9; exact of_decide_eq_true h9.symm
                      have HNO : Hid (∀ H, ¬ Fit (stepsL p f) nc H) := fun H => HTP.out.none HSS.out HKL.out HAT.out (steps_at HX.out) (.inl (fun h0 => by
                        rw [← HHE.out] at h0
                        rw [fault_iff, HSB.out, ← HWE.out, ← HXO.out, ← HFR.out] at h0
                        exact h0.1 hbt)) H
                      have HKE := hid_of (HT4.out.kept.trans HK4.out)
                      clear hbt hbv HBAD
                      go_wp2
                      refine bodyPost_ret (results_tmp2 (by rfl) _ _ _) rfl ⟨HKE.out, .inr ⟨rfl, ?_⟩⟩
                      rw [← HNC.out]
                      exact HNO.out
                  | false =>
                    as_aux_lemma =>
                      have HNB : Hid (¬ (ha < wt ∨ 256 < bh ∨ (xo = 18 ∧ ha ≠ fr))) := by have h9 := HBAD.out; rw [hbv] at h9; exact of_decide_eq_false h9.symm
                      clear hbv HBAD
                      have HT5 := hid_of (HT4.out.same HK4.out)
                      have hNX := cnext_any _ p w4 B (HPG.out.kept HT5.out.kept (fun _ _ f => f)) (Nat.le_trans HBB.out HT5.out.kept.size) HO.out (k : Int) (at' : Int)
                      have HNX := hid_of hNX
                      obtain ⟨a0, a1, a2, b0, b1, d0, e0, r0⟩ := HSX.out _ HK4.out
                      clear hNX
                      go_wp2_with fail
                      refine HNX.out.mono ?_
                      rintro e w5 ⟨lv, rfl, hlv, hk5⟩
                      have HT6 := hid_of (HT5.out.same hk5)
                      have HLV := hid_of hlv
                      have HBL : Hid (∀ q, lv.ownBlock = some q → q ≠ gh ∧ (Value.slice (some ⟨g, 0, none⟩) l1 c).ownBlock ≠ some q) := fun q hq => by
                        have h1 := (hlv.lt q hq).1
                        refine ⟨fun e => ?_, fun e => ?_⟩
                        · have := (HT5.out.hr.lt gh rfl).2; omega
                        · have := (HT5.out.rr.lt q e).2; omega
                      obtain ⟨lao, lc, hls⟩ := ownsRow_shape hlv
                      have hlen := next_len' p (k : Int) (at' : Int)
                      obtain ⟨nl, hnl⟩ : ∃ z, z = (nextD p (k : Int) (at' : Int)).length := ⟨_, rfl⟩
                      rw [← hnl] at hls hlen
                      subst hls
                      have HNL := hid_of hnl
                      have z0w := HT6.out.kept.cell HZ0.out (fun f => f)
                      have z1w := HT6.out.kept.cell HZ1.out (fun f => f)
                      have HEN := hid_of (ends_any xo xa w5)
                      clear hlv hnl hk5 HNX a0 a1 a2 b0 b1 d0 e0 r0 HSX HWT HT5
                      obtain ⟨fl, hfl⟩ : ∃ b, b = decide ((nc : Int) ∈ wayL x at') := ⟨_, rfl⟩
                      have HFL : Hid (fl = true ↔ endsP xo = false ∧ xo ≠ 14 ∧ nc ≤ at' + 1) := by
                        unfold Hid
                        rw [hfl, decide_eq_true_iff, HXO.out, HNC.out]
                        exact way_end HST.out (by rw [← HNC.out]; exact hatn)
                      have HFD := hid_of hfl
                      clear hfl
                      go_upto_region 23 with fail
                      go_cut [20] from 41 to 198 (fun v20 wx => v20 = .bool fl ∧ Hid (Kept (fun _ => False) w5 wx))
                      case first =>
                        as_aux_lemma =>
                          cases hend : endsP xo with
                          | true =>
                            as_aux_lemma =>
                              have HF0 : Hid (fl = false) := bool_no (fun h => by have h9 := (HFL.out.1 h).1; rw [hend] at h9; cases h9)
                              rw [hend] at HEN
                              clear HFL hend
                              go_wp2_with fail
                              refine HEN.out.mono ?_
                              rintro e w6 ⟨rfl, hk6⟩
                              have HK6 := hid_of hk6
                              clear hk6 HEN
                              go_wp2_with fail
                              go_meet
                              exact ⟨by rw [HF0.out], HK6⟩
                          | false =>
                            as_aux_lemma =>
                              rw [hend] at HEN
                              by_cases h14 : xo = 14
                              · have HF0 : Hid (fl = false) := bool_no (fun h => absurd h14 (HFL.out.1 h).2.1)
                                have H14 := hid_of h14
                                clear HFL hend h14
                                go_wp2_with fail
                                refine HEN.out.mono ?_
                                rintro e w6 ⟨rfl, hk6⟩
                                have z0x := hk6.cell z0w (fun f => f)
                                rw [H14.out] at z0x
                                have HK6 := hid_of hk6
                                clear hk6 HEN H14 z0w z1w
                                go_wp2_with fail
                                go_meet
                                exact ⟨by rw [HF0.out], HK6⟩
                              · have h14b : (xo != 14) = true := by simpa using h14
                                by_cases hge : nc ≤ at' + 1
                                · have HF0 : Hid (fl = true) := HFL.out.2 ⟨hend, h14, hge⟩
                                  have hgI : (nc : Int) ≤ (at' : Int) + 1 := by omega
                                  clear HFL hend
                                  go_wp2_with fail
                                  refine HEN.out.mono ?_
                                  rintro e w6 ⟨rfl, hk6⟩
                                  have z0x := hk6.cell z0w (fun f => f)
                                  have HK6 := hid_of hk6
                                  clear hk6 HEN z0w z1w
                                  go_wp2_with fail
                                  go_meet
                                  exact ⟨by rw [HF0.out], HK6⟩
                                · have HF0 : Hid (fl = false) := bool_no (fun h => absurd (HFL.out.1 h).2.2 hge)
                                  have hgI : ¬ ((nc : Int) ≤ (at' : Int) + 1) := by omega
                                  clear HFL hend
                                  go_wp2_with fail
                                  refine HEN.out.mono ?_
                                  rintro e w6 ⟨rfl, hk6⟩
                                  have z0x := hk6.cell z0w (fun f => f)
                                  have HK6 := hid_of hk6
                                  clear hk6 HEN z0w z1w
                                  go_wp2_with fail
                                  go_meet
                                  exact ⟨by rw [HF0.out]; exact congrArg Value.bool (decide_eq_false (by omega)), HK6⟩
                      case rest =>
                        as_aux_lemma =>
                          obtain ⟨rfl, HK6⟩ := hcut
                          obtain ⟨w6, hw6⟩ : ∃ w, w = wc := ⟨_, rfl⟩
                          subst hw6
                          clear HEN z0w z1w HFL
                          cases hfv : fl with
                          | true =>
                            as_aux_lemma =>
                              have hin : (nc : Int) ∈ wayL x at' := by have h9 := HFD.out; rw [hfv] at h9; exact of_decide_eq_true h9.symm
                              have HNO : Hid (∀ H, ¬ Fit (stepsL p f) nc H) := fun H => HTP.out.none HSS.out HKL.out HAT.out (steps_at HX.out) (.inl (fun h0 => by
                                rw [fault_iff] at h0
                                exact h0.2 hin)) H
                              have HKE := hid_of (HT6.out.kept.trans HK6.out)
                              clear hin hfv HFD
                              go_wp2
                              refine bodyPost_ret (results_tmp2 (by rfl) _ _ _) rfl ⟨HKE.out, .inr ⟨rfl, ?_⟩⟩
                              rw [← HNC.out]
                              exact HNO.out
                          | false =>
                            as_aux_lemma =>
                              have hni : (nc : Int) ∉ wayL x at' := by have h9 := HFD.out; rw [hfv] at h9; exact of_decide_eq_false h9.symm
                              have HF0 : Hid (faultS (stepAt p f at' x) (hs.getD at' 0) nc = 0) := by
                                unfold Hid
                                rw [← HHE.out, fault_iff, HSB.out, ← HWE.out, ← HXO.out, ← HFR.out]
                                exact ⟨HNB.out, hni⟩
                              have HNE : Hid (nextD p (k : Int) (at' : Int) = wayL x at') := next_way (instr_at HFK.out HX.out) HST.out (by rw [← HNC.out]; exact hatn) (by rw [← HNC.out]; exact hni)
                              obtain ⟨ms, hms⟩ : ∃ z, z = wayL x at' := ⟨_, rfl⟩
                              rw [HNE.out, ← hms] at HLV HNL
                              have HMS := hid_of hms
                              have HB3 : Hid ((0 ≤ bh ∧ bh ≤ 256) ∧ ∀ m ∈ ms, 0 ≤ m ∧ m < nc) := by
                                have hsm := List.mem_of_getElem? (steps_at (p := p) HX.out)
                                obtain ⟨b1, b2, b3⟩ := fault_zero (HSS.out.stb _ hsm) (HSS.out.cp _ hsm) (fun m hm => (HSS.out.nx _ hsm).1 m hm) HF0.out
                                rw [← HHE.out, HSB.out] at b1 b2
                                exact ⟨⟨b1, b2⟩, fun m hm => b3 m (by rw [hms] at hm; exact hm)⟩
                              have HTP0 := HTP
                              have HT8 := hid_of (HT6.out.same HK6.out)
                              have HLW : Hid (OwnN w6 w4.heap.size (.slice lao nl lc) ms) := HK6.out.ownsRow HLV.out (fun _ _ f => f)
                              clear hfv hni hms HNB HNE HFD HT6 HLV HK6
                              go_wp2_with fail
                              go_loopw [11, 21] (fun rv iv wr => ∃ (j g2 c2 l2 : Nat) (hs2 lz2 : List Int), j ≤ nl ∧ iv = .int .i64 (j : Int) ∧ rv = .slice (some ⟨g2, 0, none⟩) l2 c2 ∧ Hid (l2 = lz2.length) ∧ Hid (TdK w wr gb gh nc #[.int .i64 mem, .slice dao nd dc, .slice (some ⟨pg, po, none⟩) nf fc] (.slice (some ⟨g2, 0, none⟩) l2 c2) hs2 lz2) ∧ Hid (joinT bh (ms.drop j) hs2 lz2 = joinT bh ms hs (pickL l kk)) ∧ Hid ((∀ y ∈ hs2, -1 ≤ y ∧ y ≤ 256) ∧ lz2.length ≤ 4096 + j) ∧ Hid (OwnN wr w4.heap.size (.slice lao nl lc) ms) ∧ Hid (∀ q, (Value.slice lao nl lc).ownBlock = some q → q ≠ gh ∧ (Value.slice (some ⟨g2, 0, none⟩) l2 c2).ownBlock ≠ some q)) (fun _ iv _ => nl - (intOf iv).toNat)
                              case atStart => exact ⟨0, g, c, l1, hs, pickL l kk, by omega, rfl, rfl, HL1, HT8, rfl, ⟨HTP.out.lo, by have := HL1.out; omega⟩, HLW, HBL⟩
                              case round =>
                                clear HT8 HLW HBL
                                obtain ⟨j, g2, c2, l2, hs2, lz2, hj, rfl, rfl, HL2, HT8, HJ2, HLO, HLW, HBL⟩ := hrel
                                by_cases hltj : j < nl
                                · have hltjI : (j : Int) < (nl : Int) := by omega
                                  have hjm : j < ms.length := by rw [← HNL.out]; exact hltj
                                  obtain ⟨m, hm⟩ : ∃ m, ms[j]? = some m := ⟨_, List.getElem?_eq_getElem hjm⟩
                                  have hmm := List.mem_of_getElem? hm
                                  obtain ⟨m0, m1⟩ := HB3.out.2 m hmm
                                  obtain ⟨mq, hmq⟩ : ∃ q : Nat, m = (q : Int) := ⟨m.toNat, by omega⟩
                                  subst hmq
                                  have hmqn : mq < nc := by omega
                                  have hmqI : (mq : Int) < (nc : Int) := by omega
                                  obtain ⟨lg, lcc, elv, t0⟩ := own_look HLW.out hjm
                                  rw [← HNL.out] at elv
                                  simp only [Value.slice.injEq] at elv
                                  obtain ⟨rfl, _, rfl⟩ := elv
                                  have hmg : ms.getD j 0 = (mq : Int) := by simp [List.getD, hm]
                                  rw [hmg] at t0
                                  obtain ⟨t1, tf⟩ := HT8.out.hAt hmqn
                                  obtain ⟨hv, hhv⟩ : ∃ z, z = hs2.getD mq 0 := ⟨_, rfl⟩
                                  rw [← hhv] at t1
                                  have HDR : Hid (ms.drop j = (mq : Int) :: ms.drop (j + 1)) := by
                                    unfold Hid
                                    rw [List.drop_eq_getElem_cons hjm]
                                    have e : ms[j] = (mq : Int) := (List.getElem?_eq_some_iff.1 hm).2
                                    rw [e]
                                  have hvr := HLO.out.1 _ (getD_mem (show mq < hs2.length by rw [HT8.out.hl]; exact hmqn))
                                  rw [← hhv] at hvr
                                  have HHV := hid_of hhv
                                  clear hm hmm m0 m1 hmg hhv hjm
                                  have hbr := HB3.out.1
                                  by_cases hv1 : hv = -1
                                  · have hj9 := HJ2.out
                                    rw [HDR.out, joinT, show ((mq : Int)).toNat = mq by omega, ← HHV.out, if_pos hv1] at hj9
                                    have HT9 := HT8.out.setH mq bh
                                    obtain ⟨g3, c3, w8, hr, hT, hka, hgg⟩ := HT9.push (mq : Int) (by have := HLO.out.2; omega)
                                    have hks := kept_set wr gh mq (.int .i64 bh)
                                    have HLW2 : Hid (OwnN w8 w4.heap.size (.slice (some ⟨lg, 0, none⟩) nl lc) ms) := hka.ownsRow (hks.ownsRow HLW.out (fun q hq e => (HBL.out q hq).1 e)) (fun q hq e => (HBL.out q hq).2 e)
                                    have HBL2 : Hid (∀ q, (Value.slice (some ⟨lg, 0, none⟩) nl lc).ownBlock = some q → q ≠ gh ∧ (Value.slice (some ⟨g3, 0, none⟩) (lz2.length + 1) c3).ownBlock ≠ some q) := fun q hq => by
                                      refine ⟨(HBL.out q hq).1, fun e => ?_⟩
                                      have e' : g3 = q := Option.some.inj e
                                      rcases hgg with h9 | h9
                                      · exact (HBL.out q hq).2 (by rw [← e']; exact h9)
                                      · have h8 := (HLW.out.lt q hq).2
                                        rw [show (wr.setCell ⟨gh, mq, none⟩ (.int .i64 bh)).heap.size = wr.heap.size by simp] at h9
                                        omega
                                    have HLO2 : Hid ((∀ y ∈ hs2.set mq bh, -1 ≤ y ∧ y ≤ 256) ∧ (lz2 ++ [(mq : Int)]).length ≤ 4096 + (j + 1)) := by
                                      refine ⟨fun y hy => ?_, by have := HLO.out.2; simp; omega⟩
                                      rcases List.mem_or_eq_of_mem_set hy with hy | rfl
                                      · exact HLO.out.1 y hy
                                      · omega
                                    have HJ3 := hid_of hj9
                                    obtain ⟨l3, hl3⟩ : ∃ z, z = lz2.length + 1 := ⟨_, rfl⟩
                                    rw [← hl3] at hr hT HBL2
                                    have HL3 : Hid (l3 = (lz2 ++ [(mq : Int)]).length) := by unfold Hid; rw [hl3]; simp
                                    have HR := hid_of hr
                                    have HT10 := hid_of hT
                                    have HSZ : Hid ((wr.setCell ⟨gh, mq, none⟩ (.int .i64 bh)).heap.size = wr.heap.size) := by unfold Hid; simp
                                    have t0s : (wr.setCell ⟨gh, mq, none⟩ (.int .i64 bh)).cell? ⟨lg, j, none⟩ = some (.int .i64 (mq : Int)) := hks.cell t0 (fun e => (HBL.out lg rfl).1 e)
                                    rw [hv1] at t1
                                    clear hj9 HT9 hr hT hka hgg hks HLW HBL HLO HJ2 HT8 hl3 hv1 hvr HHV HDR
                                    go_upto_region 33 with fail
                                    clear t1 t0 tf
                                    generalize wr.setCell ⟨gh, mq, none⟩ (.int .i64 bh) = w7 at *
                                    go_wp2_with (at_builtin; refine wp_app2 rfl (.tmp 192) (.tmp 197) 30 30 rfl _ _ rfl rfl _ w8 HR.out ?_)
                                    go_roundw
                                    case rel => exact ⟨j + 1, g3, c3, l3, _, _, by omega, by go_num, rfl, HL3, HT10, HJ3, HLO2, HLW2, HBL2⟩
                                    case measure => simp [intOf]; omega
                                  · have hv0 : (0 : Int) ≤ hv := by omega
                                    have hvl : ¬ (hv < 0) := by omega
                                    by_cases hv2 : hv = bh
                                    · have hj9 := HJ2.out
                                      rw [HDR.out, joinT, show ((mq : Int)).toNat = mq by omega, ← HHV.out, if_neg hv1, if_pos hv2] at hj9
                                      have HJ3 := hid_of hj9
                                      have HLO2 : Hid ((∀ y ∈ hs2, -1 ≤ y ∧ y ≤ 256) ∧ lz2.length ≤ 4096 + (j + 1)) := ⟨HLO.out.1, by have := HLO.out.2; omega⟩
                                      have hvb : (hv != bh) = false := by simpa using hv2
                                      clear hj9 HJ2 HLO HHV HDR hv2
                                      go_wp2
                                      go_roundw
                                      case rel => exact ⟨j + 1, g2, c2, l2, _, _, by omega, by go_num, rfl, HL2, HT8, HJ3, HLO2, HLW, HBL⟩
                                      case measure => simp [intOf]; omega
                                    · have hj9 := HJ2.out
                                      rw [HDR.out, joinT, show ((mq : Int)).toNat = mq by omega, ← HHV.out, if_neg hv1, if_neg hv2] at hj9
                                      have hvb : (hv != bh) = true := by simpa using hv2
                                      have HNO : Hid (∀ H, ¬ Fit (stepsL p f) nc H) := fun H => HTP.out.none HSS.out HKL.out HAT.out (steps_at HX.out) (.inr (by
                                        rw [← HHE.out, HSB.out]
                                        show joinT bh (wayL x at') hs (pickL l kk) = none
                                        rw [← HMS.out]
                                        exact hj9.symm)) H
                                      have HKE := hid_of HT8.out.kept
                                      clear hj9 HJ2 HHV HDR hv2
                                      go_wp2
                                      refine bodyPost_ret (results_tmp2 (by rfl) _ _ _) rfl ⟨HKE.out, .inr ⟨rfl, ?_⟩⟩
                                      rw [← HNC.out]
                                      exact HNO.out
                                · have hltjI : ¬ ((j : Int) < (nl : Int)) := by omega
                                  have hj9 := HJ2.out
                                  rw [List.drop_of_length_le (by have := HNL.out; omega), joinT] at hj9
                                  have HTN : Hid (TdP (stepsL p f) nc hs2 lz2 (n + 1)) := HTP.out.next HSS.out HKL.out HAT.out (steps_at HX.out) HF0.out (by
                                    rw [← HHE.out, HSB.out]
                                    show joinT bh (wayL x at') hs (pickL l kk) = some (hs2, lz2)
                                    rw [← HMS.out]
                                    exact hj9.symm)
                                  clear hj9 HJ2
                                  go_wp2
                                  go_roundw
                                  case rel => exact ⟨g2, c2, l2, hs2, lz2, n + 1, rfl, by go_num, HL2, HT8, HTN⟩
                                  case measure => simp [intOf]; omega
        · have hl0I : ¬ ((0 : Int) < (ll : Int)) := by omega
          have hle : l = [] := List.length_eq_zero_iff.1 (by have := HLL.out; omega)
          have HFT : Hid (Fit (stepsL p f) nc hs) := by unfold Hid; have h9 := HTP.out; rw [hle] at h9; exact h9.done
          have HKE := hid_of HTK.out.kept
          have HOW := hid_of HTK.out.hr
          clear hle HTP HTK
          go_wp2
          refine bodyPost_ret (results_tmp2 (by rfl) _ _ _) rfl ⟨HKE.out, .inl ⟨_, hs, rfl, HOW.out, ?_⟩⟩
          rw [← HNC.out]
          exact HFT.out
end Go.Proofs.YtcaadgcfceommaaGreat

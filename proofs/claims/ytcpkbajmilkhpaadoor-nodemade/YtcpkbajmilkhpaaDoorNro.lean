/-
  The reference's one by contract.
-/
import Derived.Test.YtcpkbajmilkhpaaDoorNrp
import Derived.BigGuardPart
namespace Go.Proofs.YtcpkbajmilkhpaaDoor
open Go.RowKit
set_option linter.unusedVariables false
set_option linter.unusedSimpArgs false
set_option maxRecDepth 100000

set_option maxHeartbeats 4000000 in
theorem one_ref (P : List Int → Bool) (HR : NameRC P) (h0 : P [] = false) (ah xs : List Int) (r : Nat) (v lv : Value) (p : Nat) (w : World) (h : RR w r v p 0) (hx : IsB w v xs) (hb : BytesOk xs) (hc : Capd v xs.length) (hp : p ≤ xs.length) (ha : ∀ x ∈ ah, 0 ≤ x ∧ x ≤ 255) (hal : ah.length ≤ 140737488351232) (hl : LastN w lv ah)
    (hvr : ∀ b, v.ownBlock = some b → b ≠ r) (hlr : ∀ b, lv.ownBlock = some b → b ≠ r) (hvl : ∀ b, v.ownBlock = some b → b < w.heap.size) (hll : ∀ b, lv.ownBlock = some b → b < w.heap.size) :
    Calls Tryd.prog 45 #[.pointer (some ⟨r, 0, none⟩), lv] w (OneR P ah xs w r v p) := by
  have hrl := h.cells.2.2.2.2
  have hsz34 : (Tryd.prog.info? 47).map (·.size) = some (entA ⟨#[]⟩ 0 []).size := by rw [size47, entA_size _ _ _ (by decide)]
  have h1z := entA_cells ⟨#[]⟩ 0 []
  have hkA : Kept (fun _ => False) w (w.alloc (.cells (entA ⟨#[]⟩ 0 []) 47)) := (Kept.refl _ _).alloc _
  have hA : OneI w (w.alloc (.cells (entA ⟨#[]⟩ 0 []) 47)) r v lv p 0 xs ah := ⟨heap_alloc_new _ _, h.kept hkA (fun f => f), hx.kept hkA (fun _ _ f => f), hl.kept hkA (fun _ _ f => f), hkA.mono (fun _ _ f => f.elim)⟩
  rw [entA_new] at hA
  clear hkA
  have HVR := hid_of hvr
  have HLR := hid_of hlr
  have HVL := hid_of hvl
  have HLL := hid_of hll
  have HB := hid_of hb
  have HCC := hid_of hc
  have HNC := hid_of HR
  have HPN := hid_of h0
  have HAH := hid_of ha
  clear hvr hlr hvl hll hb hc HR h0 ha h hx hl
  go_enter Tryd.func45, Tryd.ntmps45
  go_upto_region 1 with fail
  generalize w.alloc (.cells _ 47) = wA at *
  have HN := hid_of (read_ref1 r v xs p 0 wA hA.rr hA.isb HB.out hp)
  have HA := hid_of hA
  clear hA
  go_wp2_with fail
  refine HN.out.mono ?_
  rintro e w1 (⟨g, q, bv, hd, hq, rfl, hib, hnew, hrr, hk⟩ | ⟨f, q, hd, rfl, hrr, hk⟩)
  · obtain ⟨k, gl⟩ := g
    dsimp only at hib
    obtain ⟨bo1, bc1, rfl⟩ := hib.shape
    have hnD := one1_ok hd
    have HD := hid_of hnD
    have hI0 := HA.out.read hk hrr hrl HVR.out HLR.out
    have HI : Hid (OneI w (w1.alloc (.cells #[.int .i64 1, .int .i64 k, .slice bo1 gl.length bc1] 69)) r v lv q 0 xs ah) := hI0.step (((Kept.refl (fun _ => False) w1)).alloc _) (fun _ _ f => f) hrl HVL.out HLL.out
    have hb6 := heap_alloc_new w1 (.cells #[.int .i64 1, .int .i64 k, .slice bo1 gl.length bc1] 69)
    have hsz1 : w.heap.size < w1.heap.size := (Array.getElem?_eq_some_iff.1 hI0.res).1
    clear hd hnD hrr hk hI0 HN HA hib hnew
    go_upto_region 2 with fail
    generalize w1.alloc (.cells _ 69) = w2 at *
    obtain ⟨_, _, c2, _, hrl2⟩ := HI.out.rr.cells
    have d1 : w2.cell? ⟨w1.heap.size, 1, none⟩ = some (.int .i64 k) := by rw [cell_block _ _ _ _ _ _ hb6]; rfl
    have dl : w1.heap.size < w2.heap.size := (Array.getElem?_eq_some_iff.1 hb6).1
    have HB6 := hid_of hb6
    clear hb6
    by_cases hkk : k = 1 ∨ k = 2
    · have HKR := hid_of (kind_ref k w2)
      rw [decide_eq_true hkk] at HKR
      have HKK := hid_of hkk
      clear hkk
      have HN := hid_of (read_ref5 r v xs q 0 w2 HI.out.rr HI.out.isb HB.out HCC.out hq)
      go_wp2_with fail
      refine HKR.out.mono ?_
      rintro e w3 ⟨rfl, hw3⟩
      subst hw3
      clear HKR
      go_wp2_with fail
      refine HN.out.mono ?_
      rintro e w4 (⟨g, q2, bv5, hd, hq2, rfl, hib, hnew, hrr, hk⟩ | ⟨f, q2, hd, rfl, hrr, hk⟩)
      · obtain ⟨gn, nm⟩ := g
        dsimp only at hib
        obtain ⟨bo5, bc5, rfl⟩ := hib.shape
        have hnD := oneb_ok (.inr rfl) hd
        have HD2 := hid_of hnD
        have hI0 := HI.out.read hk hrr hrl HVR.out HLR.out
        clear HI
        have hkA : Kept (fun _ => False) w4 (w4.alloc (.cells #[.int .i64 5, .int .i64 gn, .slice bo5 nm.length bc5] 69)) := (Kept.refl _ _).alloc _
        have HI : Hid (OneI w (w4.alloc (.cells #[.int .i64 5, .int .i64 gn, .slice bo5 nm.length bc5] 69)) r v lv q2 0 xs ah) := hI0.step hkA (fun _ _ f => f) hrl HVL.out HLL.out
        have hb7 := heap_alloc_new w4 (.cells #[.int .i64 5, .int .i64 gn, .slice bo5 nm.length bc5] 69)
        have hn1 : r ≠ w1.heap.size := by omega
        have hs4 := hk.size
        have hr4 : r < w4.heap.size := by omega
        have HB6' := hid_of ((hkA.block w1.heap.size (by omega) (fun f => f)).trans ((hk.block w1.heap.size dl (fun e => hn1 e.symm)).trans HB6.out))
        have hib5 := hib.kept hkA (fun _ _ f => f)
        have hnw : ∀ b, (Value.slice bo5 nm.length bc5).ownBlock = some b → w.heap.size < b := fun b hb => by have := (hnew b hb).1; omega
        clear hd hnD hrr hk hI0 HN c2 d1 dl hrl2 hkA hib hnew HB6
        go_upto_region 7 with fail
        generalize w4.alloc (.cells _ 69) = w5 at *
        obtain ⟨_, _, c2, _, hrl2⟩ := HI.out.rr.cells
        have e2 : w5.cell? ⟨w4.heap.size, 2, none⟩ = some (.slice bo5 nm.length bc5) := by rw [cell_block _ _ _ _ _ _ hb7]; rfl
        have el : w4.heap.size < w5.heap.size := (Array.getElem?_eq_some_iff.1 hb7).1
        have hcv := conv_str w5 _ nm hib5
        obtain ⟨mb, hmb⟩ : ∃ b, b = (P nm && lessB ah nm) := ⟨_, rfl⟩
        have hbq : BytesOk (xs.drop q) := ⟨fun x hx => HB.out.1 x (List.mem_of_mem_drop hx), by rw [List.length_drop]; have := HB.out.2; omega⟩
        obtain ⟨_, hbn⟩ := bytesD_rest hbq HD2.out
        have HNM := hid_of (name_any P HNC.out HPN.out nm ah lv w5 hbn.1 HAH.out hbn.2 hal HI.out.last)
        rw [← hmb] at HNM
        have HMB := hid_of hmb
        have HB7 := hid_of hb7
        have HIB5 := hid_of hib5
        clear hmb hb7 hib5 hbq hbn
        cases mb
        · have HE : Hid (entD P ah (xs.drop p) = .error 51) := entD_n HD.out HKK.out HD2.out HMB.out.symm
          go_wp2_with fail
          refine HNM.out.mono ?_
          rintro e w6 ⟨rfl, hk6⟩
          have hI6 := HI.out.step hk6 (fun _ _ f => f) hrl HVL.out HLL.out
          clear HI hk6
          have HI := hid_of hI6
          clear hI6 HNM
          have hres := HI.out.res
          have HER := hid_of (HI.out.err hrl).2
          have HG : Hid (OneR P ah xs w r v p (.returned (.tuple #[.agg (entA ⟨#[]⟩ 0 []), .int .i64 51])) (w6.setRow w.heap.size (entA ⟨#[]⟩ 0 []))) := .inr ⟨51, by decide, HE.out, rfl, (HI.out.err hrl).1⟩
          go_wp2_with (first | refine wpList_none rfl rfl ?_ | refine wpList_store_row rfl 47 _ _ rfl w.heap.size (entA ⟨#[]⟩ 0 []) rfl rfl 47 _ hres hsz34 rfl h1z ?_)
          refine bodyPost_ret (v := .tuple #[.agg (entA ⟨#[]⟩ 0 []), .int .i64 51]) ?_ rfl HG.out
          exact results_row_tmp (by rfl) _ _ w.heap.size _ _ (by rfl) HER.out hsz34 (by rfl)
        · go_wp2_with fail
          refine HNM.out.mono ?_
          rintro e w6 ⟨rfl, hk6⟩
          have hI6 := HI.out.step hk6 (fun _ _ f => f) hrl HVL.out HLL.out
          have HIB6 := hid_of (HIB5.out.kept hk6 (fun _ _ f => f))
          have HB66 := hid_of ((hk6.block _ (Array.getElem?_eq_some_iff.1 HB6'.out).1 (fun f => f)).trans HB6'.out)
          have HB76 := hid_of ((hk6.block _ (Array.getElem?_eq_some_iff.1 HB7.out).1 (fun f => f)).trans HB7.out)
          clear HI hk6 HIB5 HB6' HB7 e2 el c2 hrl2 hcv
          have HI := hid_of hI6
          clear hI6 HNM
          have HN := hid_of (read_ref4 r v xs q2 0 w6 HI.out.rr HI.out.isb HB.out HCC.out hq2)
          have hl6 : w1.heap.size < w6.heap.size := (Array.getElem?_eq_some_iff.1 HB66.out).1
          have hl7 : w4.heap.size < w6.heap.size := (Array.getElem?_eq_some_iff.1 HB76.out).1
          go_wp2_with fail
          refine HN.out.mono ?_
          rintro e w7 (⟨g, q3, bv4, hd, hq3, rfl, hib, hnew, hrr, hk⟩ | ⟨f, q3, hd, rfl, hrr, hk⟩)
          · obtain ⟨gm, fr⟩ := g
            dsimp only at hib
            obtain ⟨bo, bc, rfl⟩ := hib.shape
            have hnD := oneb_ok (.inl rfl) hd
            have HD3 := hid_of hnD
            have hI0 := HI.out.read hk hrr hrl HVR.out HLR.out
            clear HI
            have hkA : Kept (fun _ => False) w7 (w7.alloc (.cells #[.int .i64 4, .int .i64 gm, .slice bo fr.length bc] 69)) := (Kept.refl _ _).alloc _
            have HI : Hid (OneI w (w7.alloc (.cells #[.int .i64 4, .int .i64 gm, .slice bo fr.length bc] 69)) r v lv q3 0 xs ah) := hI0.step hkA (fun _ _ f => f) hrl HVL.out HLL.out
            have HB8 := hid_of (heap_alloc_new w7 (.cells #[.int .i64 4, .int .i64 gm, .slice bo fr.length bc] 69))
            have hs7 := hk.size
            have HB6' := hid_of ((hkA.block w1.heap.size (by omega) (fun f => f)).trans ((hk.block w1.heap.size hl6 (by omega)).trans HB66.out))
            have HB7' := hid_of ((hkA.block w4.heap.size (by omega) (fun f => f)).trans ((hk.block w4.heap.size hl7 (by omega)).trans HB76.out))
            have HIB5 := hid_of ((HIB6.out.kept hk (fun b hb e => by have := hnw b hb; omega)).kept hkA (fun _ _ f => f))
            have HIB := hid_of (hib.kept hkA (fun _ _ f => f))
            have hnw2 : ∀ b, (Value.slice bo fr.length bc).ownBlock = some b → w.heap.size < b ∧ b < w7.heap.size := fun b hb => by have := hnew b hb; have := hI0.kept.size; omega
            have hs47 : w4.heap.size < w7.heap.size := by omega
            clear hd hnD hrr hk hI0 HN hkA hib hnew HB66 HB76 HIB6 hl6 hl7
            go_upto_region 12 with fail
            generalize w7.alloc (.cells _ 69) = w8 at *
            obtain ⟨_, _, c2, _, hrl2⟩ := HI.out.rr.cells
            have f2 : w8.cell? ⟨w7.heap.size, 2, none⟩ = some (.slice bo fr.length bc) := by rw [cell_block _ _ _ _ _ _ HB8.out]; rfl
            have fl : w7.heap.size < w8.heap.size := (Array.getElem?_eq_some_iff.1 HB8.out).1
            have hbq2 : BytesOk (xs.drop q2) := ⟨fun x hx => HB.out.1 x (List.mem_of_mem_drop hx), by rw [List.length_drop]; have := HB.out.2; omega⟩
            obtain ⟨_, hbf⟩ := bytesD_rest hbq2 HD3.out
            have hfl := hbf.2
            have HBF := hid_of hbf.1
            clear hbq2 hbf
            go_upto_region 14 with fail
            clear c2 hrl2
            obtain ⟨n, hn⟩ : ∃ n, n = fr.length := ⟨_, rfl⟩
            rw [← hn] at f2 hfl
            have HNN := hid_of hn
            by_cases hlong : 32 < n
            · have hlI : (32 : Int) < (n : Int) := by omega
              have HF : Hid (isFrontB fr = false) := by unfold Hid isFrontB; rw [decide_eq_false (by rw [← HNN.out]; omega)]; rfl
              clear hn hlong
              go_upto_if 79 with fail
              have HE : Hid (entD P ah (xs.drop p) = .error 51) := entD_f HD.out HKK.out HD2.out HMB.out.symm HD3.out HF.out
              have hres := HI.out.res
              have HER := hid_of (HI.out.err hrl).2
              have HG : Hid (OneR P ah xs w r v p (.returned (.tuple #[.agg (entA ⟨#[]⟩ 0 []), .int .i64 51])) (w8.setRow w.heap.size (entA ⟨#[]⟩ 0 []))) := .inr ⟨51, by decide, HE.out, rfl, (HI.out.err hrl).1⟩
              go_wp2_with (first | refine wpList_none rfl rfl ?_ | refine wpList_store_row rfl 47 _ _ rfl w.heap.size (entA ⟨#[]⟩ 0 []) rfl rfl 47 _ hres hsz34 rfl h1z ?_)
              refine bodyPost_ret (v := .tuple #[.agg (entA ⟨#[]⟩ 0 []), .int .i64 51]) ?_ rfl HG.out
              exact results_row_tmp (by rfl) _ _ w.heap.size _ _ (by rfl) HER.out hsz34 (by rfl)
            have hnlI : ¬ ((32 : Int) < (n : Int)) := by omega
            by_cases hnil : n = 0
            · have hfe : fr = [] := List.length_eq_zero_iff.1 (hn.symm.trans hnil)
              have HF : Hid (isFrontB fr = true) := by rw [hfe]; rfl
              have hz : ¬ (0 < n) := by omega
              clear hfe hn hlong hnil
              go_upto_if 79 with fail
              try clear b9 hw9 hi90 hi91 hlz
              try clear hlenI
              try clear hz
              clear hnlI
              have HE : Hid (entD P ah (xs.drop p) = .ok (⟨nm, k, fr⟩, xs.drop q3)) := entD_ok HD.out HKK.out HD2.out HMB.out.symm HD3.out HF.out
              have h32 : fr.length ≤ 32 := by have := HF.out; unfold isFrontB at this; exact of_decide_eq_true (Bool.and_eq_true_iff.1 this).1
              have H32 := hid_of h32
              have hn32 : n ≤ 32 := by rw [HNN.out]; exact h32
              clear h32
              have g2 : w8.cell? ⟨w4.heap.size, 2, none⟩ = some (.slice bo5 nm.length bc5) := by rw [cell_block _ _ _ _ _ _ HB7'.out]; rfl
              have g2l : w4.heap.size < w8.heap.size := (Array.getElem?_eq_some_iff.1 HB7'.out).1
              have k1 : w8.cell? ⟨w1.heap.size, 1, none⟩ = some (.int .i64 k) := by rw [cell_block _ _ _ _ _ _ HB6'.out]; rfl
              have kl : w1.heap.size < w8.heap.size := (Array.getElem?_eq_some_iff.1 HB6'.out).1
              have hcv := conv_str w8 _ nm HIB5.out
              have hO := heap_alloc_new w8 (.cells (entA ⟨#[]⟩ 0 []) 47)
              have hkO : Kept (fun _ => False) w8 (w8.alloc (.cells (entA ⟨#[]⟩ 0 []) 47)) := (Kept.refl _ _).alloc _
              have hw : w8.alloc (.cells (entA ⟨#[]⟩ 0 []) 47) = w8.alloc (.cells _ 47) := congrArg (fun c => w8.alloc (.cells c 47)) (entA_new ⟨#[]⟩ 0)
              rw [hw] at hO hkO
              clear hw
              have hs34 : (Tryd.prog.info? 47).map (·.size) = some (entA (str nm) k []).size := by rw [size47, entA_size _ _ _ (by decide)]
              have ho34 : (entA ⟨#[]⟩ 0 []).size = (entA (str nm) k []).size := by rw [entA_size _ _ _ (by decide), entA_size _ _ _ (by decide)]
              have h1c := entA_cells (str nm) k []
              go_upto_region 17 with (first | refine wpList_two rfl _ _ rfl (str nm) k rfl rfl ?_ | refine wpList_store_row rfl 47 _ _ rfl w8.heap.size (entA (str nm) k []) rfl rfl 47 _ hO hs34 ho34 h1c ?_)
              have hO' : (w8.alloc (.cells _ 47)).heap[w8.heap.size]? = some (.cells (entA ⟨#[]⟩ 0 []) 47 (0, 0)) := hO
              generalize w8.alloc (.cells _ 47) = wO at *
              have hX9 := setRow_heap wO w8.heap.size _ (entA (str nm) k []) 47 (0, 0) hO'
              have hk9 : Kept (fun _ => False) w8 (wO.setRow w8.heap.size (entA (str nm) k [])) := hkO.step (kept_row wO w8.heap.size _) (fun i hi e => by omega)
              clear hO hO' hkO hs34 ho34 h1c g2 g2l k1 kl hcv f2
              generalize wO.setRow w8.heap.size (entA (str nm) k []) = w9 at *
              have HX9 : Hid (w9.heap[w8.heap.size]? = some (.cells (entA (str nm) k (fr.take 0)) 47 (0, 0)) ∧ Kept (fun q => q = w8.heap.size) w8 w9) := ⟨hX9, hk9.mono (fun _ _ f => f.elim)⟩
              have hs9 : w8.heap.size < w9.heap.size := (Array.getElem?_eq_some_iff.1 hX9).1
              clear hX9 hk9
              go_wp2
              go_loopw [10] (fun iv wr => ∃ i : Nat, i ≤ n ∧ iv = .int .i64 i ∧ wr.heap[w8.heap.size]? = some (.cells (entA (str nm) k (fr.take i)) 47 (0, 0)) ∧ Kept (fun q => q = w8.heap.size) w8 wr) (fun iv _ => n - (intOf iv).toNat)
              case atStart => exact ⟨0, by omega, rfl, HX9.out.1, HX9.out.2⟩
              case round =>
                obtain ⟨i, hi, rfl, hX, hkw⟩ := hrel
                clear HX9
                have f2 : wr.cell? ⟨w7.heap.size, 2, none⟩ = some (.slice bo n bc) := hkw.cell (by rw [cell_block _ _ _ _ _ _ HB8.out, HNN.out]; rfl) (fun e => by have e : w7.heap.size = w8.heap.size := e; omega)
                have fl' : w7.heap.size < wr.heap.size := Nat.lt_of_lt_of_le fl hkw.size
                by_cases hlt : i < n
                · have hltI : (i : Int) < (n : Int) := by omega
                  have HLT : Hid (i < fr.length) := by unfold Hid; rw [← HNN.out]; exact hlt
                  have hi32 : i < 32 := by omega
                  have hi32I : (i : Int) < 32 := by omega
                  have hi0 : (0 : Int) ≤ (i : Int) := by omega
                  have hbb := HIB.out.kept hkw (fun b hb e => by have := (hnw2 b hb).2; omega)
                  rcases hbb with ⟨e0, _⟩ | ⟨g4, o4, c4, e4, hcs⟩
                  · have := HLT.out; rw [e0] at this; exact absurd this (by simp)
                  cases e4
                  have b1 := hcs i HLT.out
                  obtain ⟨u, hu⟩ := entA_cell (str nm) k (fr.take i) i (by rw [List.length_take]; omega) hi32
                  have x1 : wr.cell? ⟨w8.heap.size, 2 + i, none⟩ = some u := by rw [cell_block _ _ _ _ _ _ hX]; exact hu
                  have xf := frozen_block _ _ (2 + i) _ _ hX
                  have xl : w8.heap.size < wr.heap.size := (Array.getElem?_eq_some_iff.1 hX).1
                  have HREL : Hid ((wr.setCell ⟨w8.heap.size, 2 + i, none⟩ (.int .u8 (fr.getD i 0))).heap[w8.heap.size]? = some (.cells (entA (str nm) k (fr.take (i + 1))) 47 (0, 0)) ∧ Kept (fun q => q = w8.heap.size) w8 (wr.setCell ⟨w8.heap.size, 2 + i, none⟩ (.int .u8 (fr.getD i 0)))) := ⟨by rw [set_block _ _ _ _ _ _ hX, entA_set _ _ _ _ H32.out HLT.out], hkw.trans (kept_set _ _ _ _)⟩
                  generalize fr.getD i 0 = bb at *
                  clear hX hkw hcs hu
                  go_wp2
                  go_roundw
                  case rel => exact ⟨i + 1, by omega, by go_num, HREL.out.1, HREL.out.2⟩
                  case measure => simp [intOf]; omega
                · have hnl : ¬ ((i : Int) < (n : Int)) := by omega
                  have hie : i = n := by omega
                  subst hie
                  rw [HNN.out, List.take_length] at hX
                  have hs34 : (Tryd.prog.info? 47).map (·.size) = some (entA (str nm) k fr).size := by rw [size47, entA_size _ _ _ H32.out]
                  have ho34 : (entA ⟨#[]⟩ 0 []).size = (entA (str nm) k fr).size := by rw [entA_size _ _ _ (by decide), entA_size _ _ _ H32.out]
                  have h1c := entA_cells (str nm) k fr
                  have hsw8 : w.heap.size < w8.heap.size := (Array.getElem?_eq_some_iff.1 HI.out.res).1
                  have hI9 := HI.out.step hkw (fun i hi e => by omega) hrl HVL.out HLL.out
                  have hres := hI9.res
                  have hkF := kept_row wr w.heap.size (entA (str nm) k fr)
                  have HER := hid_of (setRow_heap wr w.heap.size _ (entA (str nm) k fr) 47 (0, 0) hres)
                  have HG : Hid (OneR P ah xs w r v p (.returned (.tuple #[.agg (entA (str nm) k fr), .int .i64 0])) (wr.setRow w.heap.size (entA (str nm) k fr))) := .inl ⟨⟨nm, k, fr⟩, q3, HE.out, hq3, rfl, hI9.rr.kept hkF (by omega), hI9.kept.step hkF (fun i hi e => by omega)⟩
                  clear hI9 hkF hkw
                  go_wp2_with (first | refine wpList_load_row rfl 47 _ rfl w8.heap.size rfl 47 (entA (str nm) k fr) (0, 0) _ hX Tryd.underlying47 rfl hs34 ?_ | refine wpList_store_row rfl 47 _ _ rfl w.heap.size (entA (str nm) k fr) rfl rfl 47 _ hres hs34 ho34 h1c ?_)
                  refine bodyPost_ret (v := .tuple #[.agg (entA (str nm) k fr), .int .i64 0]) ?_ rfl HG.out
                  exact results_row_tmp (by rfl) _ _ w.heap.size _ _ (by rfl) HER.out hs34 (by rfl)
            have hlenI : 0 < n := by omega
            obtain ⟨g5, o5, c5, e5, hcs5⟩ : ∃ g o c, Value.slice bo fr.length bc = .slice (some ⟨g, o, none⟩) fr.length c ∧ ∀ i, i < fr.length → w8.cell? ⟨g, o + i, none⟩ = some (.int .u8 (fr.getD i 0)) := by
              rcases HIB.out with ⟨e0, _⟩ | h
              · rw [e0] at hn; exact absurd hn hnil
              · exact h
            cases e5
            obtain ⟨m, hm⟩ : ∃ m, n = m + 1 := ⟨n - 1, by omega⟩
            have hlast : endsZ fr = (fr.getD m 0 == 0) := by
              unfold endsZ
              rw [List.getLast?_eq_getElem?, show fr.length - 1 = m by omega, List.getD, List.getElem?_eq_getElem (by omega)]
              rfl
            have b9 := hcs5 m (by omega)
            have hw9 : IntKind.i64.wrap ((n : Int) - 1) = (m : Int) := by simp [IntKind.wrap, IntKind.bits, IntKind.signed]; omega
            have hi90 : (0 : Int) ≤ (m : Int) := by omega
            have hi91 : (m : Int) < (n : Int) := by omega
            obtain ⟨lb, hlb⟩ : ∃ b, b = fr.getD m 0 := ⟨_, rfl⟩
            rw [← hlb] at b9 hlast
            have HL := hid_of hlast
            clear hlast hlb hcs5 hn hm hnil
            have HN32 : Hid (fr.length ≤ 32) := by unfold Hid; rw [← HNN.out]; omega
            clear hlong
            cases hlz : (lb == 0)
            · have HF : Hid (isFrontB fr = true) := by unfold Hid isFrontB; rw [decide_eq_true HN32.out, HL.out, hlz]; rfl
              go_upto_if 79 with fail
              try clear b9 hw9 hi90 hi91 hlz
              try clear hlenI
              try clear hz
              clear hnlI
              have HE : Hid (entD P ah (xs.drop p) = .ok (⟨nm, k, fr⟩, xs.drop q3)) := entD_ok HD.out HKK.out HD2.out HMB.out.symm HD3.out HF.out
              have h32 : fr.length ≤ 32 := by have := HF.out; unfold isFrontB at this; exact of_decide_eq_true (Bool.and_eq_true_iff.1 this).1
              have H32 := hid_of h32
              have hn32 : n ≤ 32 := by rw [HNN.out]; exact h32
              clear h32
              have g2 : w8.cell? ⟨w4.heap.size, 2, none⟩ = some (.slice bo5 nm.length bc5) := by rw [cell_block _ _ _ _ _ _ HB7'.out]; rfl
              have g2l : w4.heap.size < w8.heap.size := (Array.getElem?_eq_some_iff.1 HB7'.out).1
              have k1 : w8.cell? ⟨w1.heap.size, 1, none⟩ = some (.int .i64 k) := by rw [cell_block _ _ _ _ _ _ HB6'.out]; rfl
              have kl : w1.heap.size < w8.heap.size := (Array.getElem?_eq_some_iff.1 HB6'.out).1
              have hcv := conv_str w8 _ nm HIB5.out
              have hO := heap_alloc_new w8 (.cells (entA ⟨#[]⟩ 0 []) 47)
              have hkO : Kept (fun _ => False) w8 (w8.alloc (.cells (entA ⟨#[]⟩ 0 []) 47)) := (Kept.refl _ _).alloc _
              have hw : w8.alloc (.cells (entA ⟨#[]⟩ 0 []) 47) = w8.alloc (.cells _ 47) := congrArg (fun c => w8.alloc (.cells c 47)) (entA_new ⟨#[]⟩ 0)
              rw [hw] at hO hkO
              clear hw
              have hs34 : (Tryd.prog.info? 47).map (·.size) = some (entA (str nm) k []).size := by rw [size47, entA_size _ _ _ (by decide)]
              have ho34 : (entA ⟨#[]⟩ 0 []).size = (entA (str nm) k []).size := by rw [entA_size _ _ _ (by decide), entA_size _ _ _ (by decide)]
              have h1c := entA_cells (str nm) k []
              go_upto_region 17 with (first | refine wpList_two rfl _ _ rfl (str nm) k rfl rfl ?_ | refine wpList_store_row rfl 47 _ _ rfl w8.heap.size (entA (str nm) k []) rfl rfl 47 _ hO hs34 ho34 h1c ?_)
              have hO' : (w8.alloc (.cells _ 47)).heap[w8.heap.size]? = some (.cells (entA ⟨#[]⟩ 0 []) 47 (0, 0)) := hO
              generalize w8.alloc (.cells _ 47) = wO at *
              have hX9 := setRow_heap wO w8.heap.size _ (entA (str nm) k []) 47 (0, 0) hO'
              have hk9 : Kept (fun _ => False) w8 (wO.setRow w8.heap.size (entA (str nm) k [])) := hkO.step (kept_row wO w8.heap.size _) (fun i hi e => by omega)
              clear hO hO' hkO hs34 ho34 h1c g2 g2l k1 kl hcv f2
              generalize wO.setRow w8.heap.size (entA (str nm) k []) = w9 at *
              have HX9 : Hid (w9.heap[w8.heap.size]? = some (.cells (entA (str nm) k (fr.take 0)) 47 (0, 0)) ∧ Kept (fun q => q = w8.heap.size) w8 w9) := ⟨hX9, hk9.mono (fun _ _ f => f.elim)⟩
              have hs9 : w8.heap.size < w9.heap.size := (Array.getElem?_eq_some_iff.1 hX9).1
              clear hX9 hk9
              go_wp2
              go_loopw [10] (fun iv wr => ∃ i : Nat, i ≤ n ∧ iv = .int .i64 i ∧ wr.heap[w8.heap.size]? = some (.cells (entA (str nm) k (fr.take i)) 47 (0, 0)) ∧ Kept (fun q => q = w8.heap.size) w8 wr) (fun iv _ => n - (intOf iv).toNat)
              case atStart => exact ⟨0, by omega, rfl, HX9.out.1, HX9.out.2⟩
              case round =>
                obtain ⟨i, hi, rfl, hX, hkw⟩ := hrel
                clear HX9
                have f2 : wr.cell? ⟨w7.heap.size, 2, none⟩ = some (.slice (some ⟨g5, o5, none⟩) n bc) := hkw.cell (by rw [cell_block _ _ _ _ _ _ HB8.out, HNN.out]; rfl) (fun e => by have e : w7.heap.size = w8.heap.size := e; omega)
                have fl' : w7.heap.size < wr.heap.size := Nat.lt_of_lt_of_le fl hkw.size
                by_cases hlt : i < n
                · have hltI : (i : Int) < (n : Int) := by omega
                  have HLT : Hid (i < fr.length) := by unfold Hid; rw [← HNN.out]; exact hlt
                  have hi32 : i < 32 := by omega
                  have hi32I : (i : Int) < 32 := by omega
                  have hi0 : (0 : Int) ≤ (i : Int) := by omega
                  have hbb := HIB.out.kept hkw (fun b hb e => by have := (hnw2 b hb).2; omega)
                  rcases hbb with ⟨e0, _⟩ | ⟨g4, o4, c4, e4, hcs⟩
                  · have := HLT.out; rw [e0] at this; exact absurd this (by simp)
                  cases e4
                  have b1 := hcs i HLT.out
                  obtain ⟨u, hu⟩ := entA_cell (str nm) k (fr.take i) i (by rw [List.length_take]; omega) hi32
                  have x1 : wr.cell? ⟨w8.heap.size, 2 + i, none⟩ = some u := by rw [cell_block _ _ _ _ _ _ hX]; exact hu
                  have xf := frozen_block _ _ (2 + i) _ _ hX
                  have xl : w8.heap.size < wr.heap.size := (Array.getElem?_eq_some_iff.1 hX).1
                  have HREL : Hid ((wr.setCell ⟨w8.heap.size, 2 + i, none⟩ (.int .u8 (fr.getD i 0))).heap[w8.heap.size]? = some (.cells (entA (str nm) k (fr.take (i + 1))) 47 (0, 0)) ∧ Kept (fun q => q = w8.heap.size) w8 (wr.setCell ⟨w8.heap.size, 2 + i, none⟩ (.int .u8 (fr.getD i 0)))) := ⟨by rw [set_block _ _ _ _ _ _ hX, entA_set _ _ _ _ H32.out HLT.out], hkw.trans (kept_set _ _ _ _)⟩
                  generalize fr.getD i 0 = bb at *
                  clear hX hkw hcs hu
                  go_wp2
                  go_roundw
                  case rel => exact ⟨i + 1, by omega, by go_num, HREL.out.1, HREL.out.2⟩
                  case measure => simp [intOf]; omega
                · have hnl : ¬ ((i : Int) < (n : Int)) := by omega
                  have hie : i = n := by omega
                  subst hie
                  rw [HNN.out, List.take_length] at hX
                  have hs34 : (Tryd.prog.info? 47).map (·.size) = some (entA (str nm) k fr).size := by rw [size47, entA_size _ _ _ H32.out]
                  have ho34 : (entA ⟨#[]⟩ 0 []).size = (entA (str nm) k fr).size := by rw [entA_size _ _ _ (by decide), entA_size _ _ _ H32.out]
                  have h1c := entA_cells (str nm) k fr
                  have hsw8 : w.heap.size < w8.heap.size := (Array.getElem?_eq_some_iff.1 HI.out.res).1
                  have hI9 := HI.out.step hkw (fun i hi e => by omega) hrl HVL.out HLL.out
                  have hres := hI9.res
                  have hkF := kept_row wr w.heap.size (entA (str nm) k fr)
                  have HER := hid_of (setRow_heap wr w.heap.size _ (entA (str nm) k fr) 47 (0, 0) hres)
                  have HG : Hid (OneR P ah xs w r v p (.returned (.tuple #[.agg (entA (str nm) k fr), .int .i64 0])) (wr.setRow w.heap.size (entA (str nm) k fr))) := .inl ⟨⟨nm, k, fr⟩, q3, HE.out, hq3, rfl, hI9.rr.kept hkF (by omega), hI9.kept.step hkF (fun i hi e => by omega)⟩
                  clear hI9 hkF hkw
                  go_wp2_with (first | refine wpList_load_row rfl 47 _ rfl w8.heap.size rfl 47 (entA (str nm) k fr) (0, 0) _ hX Tryd.underlying47 rfl hs34 ?_ | refine wpList_store_row rfl 47 _ _ rfl w.heap.size (entA (str nm) k fr) rfl rfl 47 _ hres hs34 ho34 h1c ?_)
                  refine bodyPost_ret (v := .tuple #[.agg (entA (str nm) k fr), .int .i64 0]) ?_ rfl HG.out
                  exact results_row_tmp (by rfl) _ _ w.heap.size _ _ (by rfl) HER.out hs34 (by rfl)
            · have HF : Hid (isFrontB fr = false) := by unfold Hid isFrontB; rw [HL.out, hlz]; simp
              go_upto_if 79 with fail
              have HE : Hid (entD P ah (xs.drop p) = .error 51) := entD_f HD.out HKK.out HD2.out HMB.out.symm HD3.out HF.out
              have hres := HI.out.res
              have HER := hid_of (HI.out.err hrl).2
              have HG : Hid (OneR P ah xs w r v p (.returned (.tuple #[.agg (entA ⟨#[]⟩ 0 []), .int .i64 51])) (w8.setRow w.heap.size (entA ⟨#[]⟩ 0 []))) := .inr ⟨51, by decide, HE.out, rfl, (HI.out.err hrl).1⟩
              go_wp2_with (first | refine wpList_none rfl rfl ?_ | refine wpList_store_row rfl 47 _ _ rfl w.heap.size (entA ⟨#[]⟩ 0 []) rfl rfl 47 _ hres hsz34 rfl h1z ?_)
              refine bodyPost_ret (v := .tuple #[.agg (entA ⟨#[]⟩ 0 []), .int .i64 51]) ?_ rfl HG.out
              exact results_row_tmp (by rfl) _ _ w.heap.size _ _ (by rfl) HER.out hsz34 (by rfl)
          · have hnD := oneb_err (.inl rfl) hd
            have hf := bytesD_err hnD
            have HD3 := hid_of hnD
            have hI0 := HI.out.read hk hrr hrl HVR.out HLR.out
            clear HI
            have HI : Hid (OneI w (w7.alloc (.cells #[.int .i64 4, .int .i64 0, .slice none 0 0] 69)) r v lv q3 f xs ah) := hI0.step (((Kept.refl (fun _ => False) w7)).alloc _) (fun _ _ f => f) hrl HVL.out HLL.out
            clear hd hnD hrr hk hI0 HN
            go_upto_region 12 with fail
            generalize w7.alloc (.cells _ 69) = w2 at *
            obtain ⟨_, _, c2, _, hrl2⟩ := HI.out.rr.cells
            have hfb : (f != 0) = true := by simpa using hf
            have HER := hid_of (HI.out.errd hrl).2
            have HG : Hid (OneR P ah xs w r v p (.returned (.tuple #[.agg (entA ⟨#[]⟩ 0 []), .int .i64 f])) (w2.drew.setRow w.heap.size (entA ⟨#[]⟩ 0 []))) := .inr ⟨f, hf, entD_e3 HD.out HKK.out HD2.out HMB.out.symm HD3.out, rfl, (HI.out.errd hrl).1⟩
            go_upto_region 13 with fail
            refine wp_region_held_drew (S := fun w' => w'.cell? ⟨r, 2, none⟩ = some (.int .i64 f)) (by kernel_rfl) c2 (fun hHeld => ?_)
            refine wpAnyH_take (i := 0) (v := .agg (entA ⟨#[]⟩ 0 [])) rfl (by kernel_rfl) (by kernel_rfl) (by kernel_rfl) (fun _ _ _ h => h) (yields_none (by rfl) rfl) (by assumption) ?_
            try simp only [Act.put, List.getElem_toArray, List.getElem_cons_zero, List.getElem_cons_succ, List.setIfInBounds_toArray, List.set_cons_zero, List.set_cons_succ]
            refine wpAnyH_take (i := 1) (v := ?_) rfl (by kernel_rfl) (by kernel_rfl) (by kernel_rfl) (fun _ _ _ h => h) (Or.inl ⟨by rfl, ?_⟩) (by assumption) ?_
            rotate_left 1
            · intro w hSw
              go_simp
              try with_reducible rfl
            try simp only [Act.put, List.getElem_toArray, List.getElem_cons_zero, List.getElem_cons_succ, List.setIfInBounds_toArray, List.set_cons_zero, List.set_cons_succ]
            refine wpAnyH_take (i := 2) (v := ?_) rfl (by kernel_rfl) (by kernel_rfl) (by kernel_rfl) (fun _ _ _ h => h) (Or.inl ⟨by rfl, ?_⟩) (by assumption) ?_
            rotate_left 1
            · intro w hSw
              go_simp
              try with_reducible rfl
            try simp only [Act.put, List.getElem_toArray, List.getElem_cons_zero, List.getElem_cons_succ, List.setIfInBounds_toArray, List.set_cons_zero, List.set_cons_succ]
            refine wpAnyH_take (i := 3) (v := ?_) rfl (by kernel_rfl) (by kernel_rfl) (by kernel_rfl) (fun _ _ _ h => h) (Or.inl ⟨by rfl, ?_⟩) (by assumption) ?_
            rotate_left 1
            · intro w hSw
              go_simp
              try with_reducible rfl
            try simp only [Act.put, List.getElem_toArray, List.getElem_cons_zero, List.getElem_cons_succ, List.setIfInBounds_toArray, List.set_cons_zero, List.set_cons_succ]
            refine wpAnyH_take (i := 4) (v := ?_) rfl (by kernel_rfl) (by kernel_rfl) (by kernel_rfl) (fun _ _ _ h => h) (Or.inl ⟨by rfl, ?_⟩) (by assumption) ?_
            rotate_left 1
            · intro w hSw
              go_simp
              try with_reducible rfl
            try simp only [Act.put, List.getElem_toArray, List.getElem_cons_zero, List.getElem_cons_succ, List.setIfInBounds_toArray, List.set_cons_zero, List.set_cons_succ]
            refine wpAnyH_ready (rs := [5]) (by kernel_rfl) (by simp) ?_
            refine AllReadyH.cons rfl (fun K hK => ?_) AllReadyH.nil
            refine stp_store_row rfl 47 _ _ rfl w.heap.size (entA ⟨#[]⟩ 0 []) rfl rfl 47 _ HI.out.res hsz34 rfl h1z ?_
            refine hK.out _ _ ((kept_row _ _ _).cell hHeld (fun e => by have e : r = w.heap.size := e; omega)) (fun hHeld => ?_)
            clear hK K
            try simp only [Act.put, List.getElem_toArray, List.getElem_cons_zero, List.getElem_cons_succ, List.setIfInBounds_toArray, List.set_cons_zero, List.set_cons_succ]
            refine wpAnyH_take (i := 6) (v := ?_) rfl (by kernel_rfl) (by kernel_rfl) (by kernel_rfl) (fun _ _ _ h => h) (Or.inl ⟨by rfl, ?_⟩) (by assumption) ?_
            rotate_left 1
            · intro w hSw
              go_simp
              try with_reducible rfl
            try simp only [Act.put, List.getElem_toArray, List.getElem_cons_zero, List.getElem_cons_succ, List.setIfInBounds_toArray, List.set_cons_zero, List.set_cons_succ]
            refine wpAnyH_done (by kernel_rfl) ?_ _
            go_wp2
            refine bodyPost_ret (v := .tuple #[.agg (entA ⟨#[]⟩ 0 []), .int .i64 f]) ?_ rfl HG.out
            exact results_row_tmp (by rfl) _ _ w.heap.size _ _ (by rfl) HER.out hsz34 (by rfl)
      · have hnD := oneb_err (.inr rfl) hd
        have hf := bytesD_err hnD
        have HD2 := hid_of hnD
        have hI0 := HI.out.read hk hrr hrl HVR.out HLR.out
        clear HI
        have HI : Hid (OneI w (w4.alloc (.cells #[.int .i64 5, .int .i64 0, .slice none 0 0] 69)) r v lv q2 f xs ah) := hI0.step (((Kept.refl (fun _ => False) w4)).alloc _) (fun _ _ f => f) hrl HVL.out HLL.out
        clear hd hnD hrr hk hI0 HN c2 d1 dl hrl2
        go_upto_region 7 with fail
        generalize w4.alloc (.cells _ 69) = w2 at *
        obtain ⟨_, _, c2, _, hrl2⟩ := HI.out.rr.cells
        have hfb : (f != 0) = true := by simpa using hf
        have HER := hid_of (HI.out.errd hrl).2
        have HG : Hid (OneR P ah xs w r v p (.returned (.tuple #[.agg (entA ⟨#[]⟩ 0 []), .int .i64 f])) (w2.drew.setRow w.heap.size (entA ⟨#[]⟩ 0 []))) := .inr ⟨f, hf, entD_e2 HD.out HKK.out HD2.out, rfl, (HI.out.errd hrl).1⟩
        go_upto_region 8 with fail
        refine wp_region_held_drew (S := fun w' => w'.cell? ⟨r, 2, none⟩ = some (.int .i64 f)) (by kernel_rfl) c2 (fun hHeld => ?_)
        refine wpAnyH_take (i := 0) (v := .agg (entA ⟨#[]⟩ 0 [])) rfl (by kernel_rfl) (by kernel_rfl) (by kernel_rfl) (fun _ _ _ h => h) (yields_none (by rfl) rfl) (by assumption) ?_
        try simp only [Act.put, List.getElem_toArray, List.getElem_cons_zero, List.getElem_cons_succ, List.setIfInBounds_toArray, List.set_cons_zero, List.set_cons_succ]
        refine wpAnyH_take (i := 1) (v := ?_) rfl (by kernel_rfl) (by kernel_rfl) (by kernel_rfl) (fun _ _ _ h => h) (Or.inl ⟨by rfl, ?_⟩) (by assumption) ?_
        rotate_left 1
        · intro w hSw
          go_simp
          try with_reducible rfl
        try simp only [Act.put, List.getElem_toArray, List.getElem_cons_zero, List.getElem_cons_succ, List.setIfInBounds_toArray, List.set_cons_zero, List.set_cons_succ]
        refine wpAnyH_take (i := 2) (v := ?_) rfl (by kernel_rfl) (by kernel_rfl) (by kernel_rfl) (fun _ _ _ h => h) (Or.inl ⟨by rfl, ?_⟩) (by assumption) ?_
        rotate_left 1
        · intro w hSw
          go_simp
          try with_reducible rfl
        try simp only [Act.put, List.getElem_toArray, List.getElem_cons_zero, List.getElem_cons_succ, List.setIfInBounds_toArray, List.set_cons_zero, List.set_cons_succ]
        refine wpAnyH_take (i := 3) (v := ?_) rfl (by kernel_rfl) (by kernel_rfl) (by kernel_rfl) (fun _ _ _ h => h) (Or.inl ⟨by rfl, ?_⟩) (by assumption) ?_
        rotate_left 1
        · intro w hSw
          go_simp
          try with_reducible rfl
        try simp only [Act.put, List.getElem_toArray, List.getElem_cons_zero, List.getElem_cons_succ, List.setIfInBounds_toArray, List.set_cons_zero, List.set_cons_succ]
        refine wpAnyH_take (i := 4) (v := ?_) rfl (by kernel_rfl) (by kernel_rfl) (by kernel_rfl) (fun _ _ _ h => h) (Or.inl ⟨by rfl, ?_⟩) (by assumption) ?_
        rotate_left 1
        · intro w hSw
          go_simp
          try with_reducible rfl
        try simp only [Act.put, List.getElem_toArray, List.getElem_cons_zero, List.getElem_cons_succ, List.setIfInBounds_toArray, List.set_cons_zero, List.set_cons_succ]
        refine wpAnyH_ready (rs := [5]) (by kernel_rfl) (by simp) ?_
        refine AllReadyH.cons rfl (fun K hK => ?_) AllReadyH.nil
        refine stp_store_row rfl 47 _ _ rfl w.heap.size (entA ⟨#[]⟩ 0 []) rfl rfl 47 _ HI.out.res hsz34 rfl h1z ?_
        refine hK.out _ _ ((kept_row _ _ _).cell hHeld (fun e => by have e : r = w.heap.size := e; omega)) (fun hHeld => ?_)
        clear hK K
        try simp only [Act.put, List.getElem_toArray, List.getElem_cons_zero, List.getElem_cons_succ, List.setIfInBounds_toArray, List.set_cons_zero, List.set_cons_succ]
        refine wpAnyH_take (i := 6) (v := ?_) rfl (by kernel_rfl) (by kernel_rfl) (by kernel_rfl) (fun _ _ _ h => h) (Or.inl ⟨by rfl, ?_⟩) (by assumption) ?_
        rotate_left 1
        · intro w hSw
          go_simp
          try with_reducible rfl
        try simp only [Act.put, List.getElem_toArray, List.getElem_cons_zero, List.getElem_cons_succ, List.setIfInBounds_toArray, List.set_cons_zero, List.set_cons_succ]
        refine wpAnyH_done (by kernel_rfl) ?_ _
        go_wp2
        refine bodyPost_ret (v := .tuple #[.agg (entA ⟨#[]⟩ 0 []), .int .i64 f]) ?_ rfl HG.out
        exact results_row_tmp (by rfl) _ _ w.heap.size _ _ (by rfl) HER.out hsz34 (by rfl)
    · have HE : Hid (entD P ah (xs.drop p) = .error 51) := entD_k HD.out hkk
      have HKR := hid_of (kind_ref k w2)
      rw [decide_eq_false hkk] at HKR
      clear hkk
      go_wp2_with fail
      refine HKR.out.mono ?_
      rintro e w3 ⟨rfl, hw3⟩
      subst hw3
      clear HKR
      have hres := HI.out.res
      have HER := hid_of (HI.out.err hrl).2
      have HG : Hid (OneR P ah xs w r v p (.returned (.tuple #[.agg (entA ⟨#[]⟩ 0 []), .int .i64 51])) (w3.setRow w.heap.size (entA ⟨#[]⟩ 0 []))) := .inr ⟨51, by decide, HE.out, rfl, (HI.out.err hrl).1⟩
      go_wp2_with (first | refine wpList_none rfl rfl ?_ | refine wpList_store_row rfl 47 _ _ rfl w.heap.size (entA ⟨#[]⟩ 0 []) rfl rfl 47 _ hres hsz34 rfl h1z ?_)
      refine bodyPost_ret (v := .tuple #[.agg (entA ⟨#[]⟩ 0 []), .int .i64 51]) ?_ rfl HG.out
      exact results_row_tmp (by rfl) _ _ w.heap.size _ _ (by rfl) HER.out hsz34 (by rfl)
  · have hnD := one1_err hd
    have hf := numD_err hnD
    have HD := hid_of hnD
    have hI0 := HA.out.read hk hrr hrl HVR.out HLR.out
    have HI : Hid (OneI w (w1.alloc (.cells #[.int .i64 1, .int .i64 0, .slice none 0 0] 69)) r v lv q f xs ah) := hI0.step (((Kept.refl (fun _ => False) w1)).alloc _) (fun _ _ f => f) hrl HVL.out HLL.out
    clear hd hnD hrr hk hI0 HN HA
    go_upto_region 2 with fail
    generalize w1.alloc (.cells _ 69) = w2 at *
    obtain ⟨_, _, c2, _, hrl2⟩ := HI.out.rr.cells
    have hfb : (f != 0) = true := by simpa using hf
    have HER := hid_of (HI.out.errd hrl).2
    have HG : Hid (OneR P ah xs w r v p (.returned (.tuple #[.agg (entA ⟨#[]⟩ 0 []), .int .i64 f])) (w2.drew.setRow w.heap.size (entA ⟨#[]⟩ 0 []))) := .inr ⟨f, hf, entD_e1 HD.out, rfl, (HI.out.errd hrl).1⟩
    go_upto_region 3 with fail
    refine wp_region_held_drew (S := fun w' => w'.cell? ⟨r, 2, none⟩ = some (.int .i64 f)) (by kernel_rfl) c2 (fun hHeld => ?_)
    refine wpAnyH_take (i := 0) (v := .agg (entA ⟨#[]⟩ 0 [])) rfl (by kernel_rfl) (by kernel_rfl) (by kernel_rfl) (fun _ _ _ h => h) (yields_none (by rfl) rfl) (by assumption) ?_
    try simp only [Act.put, List.getElem_toArray, List.getElem_cons_zero, List.getElem_cons_succ, List.setIfInBounds_toArray, List.set_cons_zero, List.set_cons_succ]
    refine wpAnyH_take (i := 1) (v := ?_) rfl (by kernel_rfl) (by kernel_rfl) (by kernel_rfl) (fun _ _ _ h => h) (Or.inl ⟨by rfl, ?_⟩) (by assumption) ?_
    rotate_left 1
    · intro w hSw
      go_simp
      try with_reducible rfl
    try simp only [Act.put, List.getElem_toArray, List.getElem_cons_zero, List.getElem_cons_succ, List.setIfInBounds_toArray, List.set_cons_zero, List.set_cons_succ]
    refine wpAnyH_take (i := 2) (v := ?_) rfl (by kernel_rfl) (by kernel_rfl) (by kernel_rfl) (fun _ _ _ h => h) (Or.inl ⟨by rfl, ?_⟩) (by assumption) ?_
    rotate_left 1
    · intro w hSw
      go_simp
      try with_reducible rfl
    try simp only [Act.put, List.getElem_toArray, List.getElem_cons_zero, List.getElem_cons_succ, List.setIfInBounds_toArray, List.set_cons_zero, List.set_cons_succ]
    refine wpAnyH_take (i := 3) (v := ?_) rfl (by kernel_rfl) (by kernel_rfl) (by kernel_rfl) (fun _ _ _ h => h) (Or.inl ⟨by rfl, ?_⟩) (by assumption) ?_
    rotate_left 1
    · intro w hSw
      go_simp
      try with_reducible rfl
    try simp only [Act.put, List.getElem_toArray, List.getElem_cons_zero, List.getElem_cons_succ, List.setIfInBounds_toArray, List.set_cons_zero, List.set_cons_succ]
    refine wpAnyH_take (i := 4) (v := ?_) rfl (by kernel_rfl) (by kernel_rfl) (by kernel_rfl) (fun _ _ _ h => h) (Or.inl ⟨by rfl, ?_⟩) (by assumption) ?_
    rotate_left 1
    · intro w hSw
      go_simp
      try with_reducible rfl
    try simp only [Act.put, List.getElem_toArray, List.getElem_cons_zero, List.getElem_cons_succ, List.setIfInBounds_toArray, List.set_cons_zero, List.set_cons_succ]
    refine wpAnyH_ready (rs := [5]) (by kernel_rfl) (by simp) ?_
    refine AllReadyH.cons rfl (fun K hK => ?_) AllReadyH.nil
    refine stp_store_row rfl 47 _ _ rfl w.heap.size (entA ⟨#[]⟩ 0 []) rfl rfl 47 _ HI.out.res hsz34 rfl h1z ?_
    refine hK.out _ _ ((kept_row _ _ _).cell hHeld (fun e => by have e : r = w.heap.size := e; omega)) (fun hHeld => ?_)
    clear hK K
    try simp only [Act.put, List.getElem_toArray, List.getElem_cons_zero, List.getElem_cons_succ, List.setIfInBounds_toArray, List.set_cons_zero, List.set_cons_succ]
    refine wpAnyH_take (i := 6) (v := ?_) rfl (by kernel_rfl) (by kernel_rfl) (by kernel_rfl) (fun _ _ _ h => h) (Or.inl ⟨by rfl, ?_⟩) (by assumption) ?_
    rotate_left 1
    · intro w hSw
      go_simp
      try with_reducible rfl
    try simp only [Act.put, List.getElem_toArray, List.getElem_cons_zero, List.getElem_cons_succ, List.setIfInBounds_toArray, List.set_cons_zero, List.set_cons_succ]
    refine wpAnyH_done (by kernel_rfl) ?_ _
    go_wp2
    refine bodyPost_ret (v := .tuple #[.agg (entA ⟨#[]⟩ 0 []), .int .i64 f]) ?_ rfl HG.out
    exact results_row_tmp (by rfl) _ _ w.heap.size _ _ (by rfl) HER.out hsz34 (by rfl)
end Go.Proofs.YtcpkbajmilkhpaaDoor

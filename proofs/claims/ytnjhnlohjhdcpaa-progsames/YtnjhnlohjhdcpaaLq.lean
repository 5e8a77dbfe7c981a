/-
  retortlaw12's Lend of a program: the walk.
-/
import Derived.Test.YtnjhnlohjhdcpaaLp
namespace Go.Proofs.Ytnjhnlohjhdcpaa
open Go.ChangeShapes Go.WideShapes Go.ChangeAt Go.RowKit Go.Deep
set_option linter.unusedVariables false
set_option linter.unusedSimpArgs false
set_option maxRecDepth 100000

/-- What Lend leaves. -/
def LendR (p : PG) (w : World) (e : Ending) (w' : World) : Prop :=
  ∃ gd gl cgs, e = .returned (lentV p gd gl) ∧ LentP w' gd gl cgs p ∧ Kept (fun _ => False) w w' ∧ w.heap.size ≤ gd ∧ w.heap.size ≤ gl ∧ ∀ cg ∈ cgs, w.heap.size ≤ cg

set_option maxHeartbeats 16000000 in
theorem lend_p (v : Value) (p : PG) (w : World) (B : Nat) (h : PgIs w B v p) (hB : B ≤ w.heap.size) (ho : p.Ok) : Calls Try.prog 10 #[v] w (LendR p w) := by
  obtain ⟨dv, fv, rfl, hd, hdl, hf⟩ := h
  obtain ⟨dao, dc, rfl⟩ := hd.shape
  obtain ⟨fao, fc, rfl⟩ := hf.shape
  obtain ⟨nd, hnd⟩ : ∃ n, n = p.data.length := ⟨_, rfl⟩
  obtain ⟨nf, hnf⟩ : ∃ n, n = p.fns.length := ⟨_, rfl⟩
  obtain ⟨mem, hmem⟩ : ∃ m, m = p.mem := ⟨_, rfl⟩
  rw [← hnf] at hf
  rw [← hmem, ← hnd, ← hnf]
  have hbd := ho.data.2
  have hlf := ho.len
  have HD := hid_of hd
  have HF := hid_of hf
  have HO := hid_of ho
  have HNF := hid_of hnf
  have HND := hid_of hnd
  have HMEM := hid_of hmem
  rw [← hnd] at hbd
  rw [← hnf] at hlf
  clear hd hdl hf ho hnf hnd hmem
  have hk1 : Kept (fun _ => False) w (((w.alloc (.cells #[.int .i64 mem, .slice dao nd dc, .slice fao nf fc] 25)).alloc (.cells #[.int .i64 0, .slice none 0 0, .slice none 0 0] 25)).alloc (.cells #[.int .i64 mem, .slice none 0 0, .slice none 0 0] 25)) := (((Kept.refl _ _).alloc _).alloc _).alloc _
  have hb1 : (((w.alloc (.cells #[.int .i64 mem, .slice dao nd dc, .slice fao nf fc] 25)).alloc (.cells #[.int .i64 0, .slice none 0 0, .slice none 0 0] 25)).alloc (.cells #[.int .i64 mem, .slice none 0 0, .slice none 0 0] 25)).heap[w.heap.size]? = some (.cells #[.int .i64 mem, .slice dao nd dc, .slice fao nf fc] 25 (0, 0)) := by
    rw [heap_alloc_old _ _ (by simp; omega), heap_alloc_old _ _ (by simp)]
    exact heap_alloc_new w _
  have hz1 : (((w.alloc (.cells #[.int .i64 mem, .slice dao nd dc, .slice fao nf fc] 25)).alloc (.cells #[.int .i64 0, .slice none 0 0, .slice none 0 0] 25)).alloc (.cells #[.int .i64 mem, .slice none 0 0, .slice none 0 0] 25)).heap[w.heap.size + 1]? = some (.cells #[.int .i64 0, .slice none 0 0, .slice none 0 0] 25 (0, 0)) := by
    rw [heap_alloc_old _ _ (by simp)]
    have := heap_alloc_new (w.alloc (.cells #[.int .i64 mem, .slice dao nd dc, .slice fao nf fc] 25)) (.cells #[.int .i64 0, .slice none 0 0, .slice none 0 0] 25)
    simpa using this
  have hq1 : (((w.alloc (.cells #[.int .i64 mem, .slice dao nd dc, .slice fao nf fc] 25)).alloc (.cells #[.int .i64 0, .slice none 0 0, .slice none 0 0] 25)).alloc (.cells #[.int .i64 mem, .slice none 0 0, .slice none 0 0] 25)).heap[w.heap.size + 2]? = some (.cells #[.int .i64 mem, .slice none 0 0, .slice none 0 0] 25 (0, 0)) := by
    have := heap_alloc_new ((w.alloc (.cells #[.int .i64 mem, .slice dao nd dc, .slice fao nf fc] 25)).alloc (.cells #[.int .i64 0, .slice none 0 0, .slice none 0 0] 25)) (.cells #[.int .i64 mem, .slice none 0 0, .slice none 0 0] 25)
    simpa using this
  have hs1 : (((w.alloc (.cells #[.int .i64 mem, .slice dao nd dc, .slice fao nf fc] 25)).alloc (.cells #[.int .i64 0, .slice none 0 0, .slice none 0 0] 25)).alloc (.cells #[.int .i64 mem, .slice none 0 0, .slice none 0 0] 25)).heap.size = w.heap.size + 3 := by simp
  have c0 : (w.alloc (.cells #[.int .i64 mem, .slice dao nd dc, .slice fao nf fc] 25)).cell? ⟨w.heap.size, 0, none⟩ = some (.int .i64 mem) := cell_block _ w.heap.size 0 _ _ _ (heap_alloc_new w _)
  go_enter Try.func10, Try.ntmps10
  go_upto_region 2 with fail
  clear c0
  generalize ((w.alloc (.cells #[.int .i64 mem, .slice dao nd dc, .slice fao nf fc] 25)).alloc (.cells #[.int .i64 0, .slice none 0 0, .slice none 0 0] 25)).alloc (.cells #[.int .i64 mem, .slice none 0 0, .slice none 0 0] 25) = w1 at *
  obtain ⟨gb, hgb⟩ : ∃ g, g = w.heap.size := ⟨_, rfl⟩
  rw [← hgb] at hb1 hz1 hq1 hs1 ⊢
  -- the bytes
  obtain ⟨w3, hcp, hl3, hk3⟩ := lend5_copy w1 (.slice dao nd dc) p.data (by have := HD.out.kept hk1 (fun _ _ f => f); rw [← HND.out] at this; exact this) 3
  have mk := make_any w1 (p.data.length + 5) (by rw [← HND.out]; omega)
  rw [← HND.out] at hcp mk
  rw [show ((nd + 5 : Nat) : Int) = (nd : Int) + 5 from by omega] at mk
  rw [hs1] at hcp mk hl3
  have hb2 : (w1.alloc (.cells (zer (nd + 5)) 5)).heap[gb]? = some (.cells #[.int .i64 mem, .slice dao nd dc, .slice fao nf fc] 25 (0, 0)) := (((Kept.refl (fun _ => False) w1).alloc _).block gb (by omega) (fun f => f)).trans hb1
  have hb3 := box_kept hk3 hb1 (fun f => f)
  have hz3 := box_kept hk3 hz1 (fun f => f)
  have hq3 := box_kept hk3 hq1 (fun f => f)
  have c1 := cell_block _ gb 1 _ _ _ hb1
  have c12 := cell_block _ gb 1 _ _ _ hb2
  have HD3 : Hid (LdK w w3 gb #[.int .i64 mem, .slice dao nd dc, .slice fao nf fc] mem p.data 0) := ⟨hl3, hk1.trans hk3, hb3, hz3, hq3, Nat.le_of_eq hgb.symm⟩
  have HGB := hid_of hgb
  clear hk1 hk3 hb1 hz1 hq1 hb2 hb3 hz3 hq3 hl3 hgb hs1
  go_upto_region 3 with fail
  clear mk c1
  generalize w1.alloc (.cells (zer (nd + 5)) 5) = w2 at *
  go_upto_region 4 with fail
  clear hcp c12
  have c1 := cell_block _ gb 1 _ _ _ HD3.out.box
  go_wp2_with fail
  clear c1
  go_loopw [5] (fun i wr => ∃ j : Nat, j ≤ 5 ∧ i = .int .i64 ((nd : Int) + (j : Int)) ∧ Hid (LdK w wr gb #[.int .i64 mem, .slice dao nd dc, .slice fao nf fc] mem p.data j)) (fun i _ => (nd + 5) - (intOf i).toNat)
  case atStart => exact ⟨0, by omega, by simp, HD3⟩
  case round =>
    obtain ⟨j, hj, rfl, HLD⟩ := hrel
    clear HD3
    by_cases hlt : j < 5
    · obtain ⟨⟨u, hu⟩, hfz⟩ := HLD.out.dat.cells (k := nd + j) (by rw [← HND.out]; omega)
      have hLS := HLD.out.step hlt
      rw [← HND.out] at hLS
      have HLS := hid_of hLS
      have hjI : (nd : Int) + (j : Int) < (nd : Int) + 5 := by omega
      clear HLD hLS
      go_wp2
      go_roundw
      case rel => exact ⟨j + 1, by omega, by go_num, HLS⟩
      case measure => simp [intOf]; omega
    · obtain rfl : j = 5 := by omega
      have hjI : ¬ ((nd : Int) + ((5 : Nat) : Int) < (nd : Int) + 5) := by omega
      have c1 := cell_block _ gb 1 _ _ _ HLD.out.box
      have q1 := cell_block _ (gb + 2) 1 _ _ _ HLD.out.q
      have qf := frozen_block _ (gb + 2) 1 _ _ HLD.out.q
      go_upto_region 9 with fail
      have hks := kept_set wr (gb + 2) 1 (.slice (some ⟨gb + 3, 0, none⟩) nd (nd + 5))
      have hq4 : (wr.setCell ⟨gb + 2, 1, none⟩ (.slice (some ⟨gb + 3, 0, none⟩) nd (nd + 5))).heap[gb + 2]? = some (.cells #[.int .i64 mem, .slice (some ⟨gb + 3, 0, none⟩) nd (nd + 5), .slice none 0 0] 25 (0, 0)) := set_block _ _ 1 _ _ _ HLD.out.q _
      have hb4 := box_kept hks HLD.out.box (by omega)
      have hz4 := box_kept hks HLD.out.res (by omega)
      have hd4 := HLD.out.dat.kept hks (by omega)
      have hn4 := HLD.out.new
      have hk4 := HLD.out.kept.step hks (fun i hi e => by omega)
      have hl4 : gb + 3 < (wr.setCell ⟨gb + 2, 1, none⟩ (.slice (some ⟨gb + 3, 0, none⟩) nd (nd + 5))).heap.size := by
        obtain ⟨cur, h0, _⟩ := hd4
        exact (Array.getElem?_eq_some_iff.1 h0).1
      clear c1 q1 qf hks HLD
      generalize wr.setCell ⟨gb + 2, 1, none⟩ (.slice (some ⟨gb + 3, 0, none⟩) nd (nd + 5)) = w4 at *
      have mk := make_fns w4 (nf + 2) (by omega)
      rw [show ((nf + 2 : Nat) : Int) = (nf : Int) + 2 from by omega] at mk
      have hkA : Kept (fun _ => False) w4 (w4.alloc (.cells (zfn ((nf + 2) * 4)) 50)) := (Kept.refl _ _).alloc _
      have hbz := heap_alloc_new w4 (.cells (zfn ((nf + 2) * 4)) 50)
      have hth : (w4.alloc (.cells (zfn ((nf + 2) * 4)) 50)).there w4.heap.size 0 ((p.fns.length + 2) * 4) := fun j hj => by
        refine ⟨?_, frozen_block _ _ _ _ _ hbz⟩
        rw [cell_block _ _ _ _ _ _ hbz, Array.getElem?_eq_getElem (by rw [zfn_size, HNF.out]; omega)]
        rfl
      have HLN : Hid (LnK w (w4.alloc (.cells (zfn ((nf + 2) * 4)) 50)) gb w4.heap.size #[.int .i64 mem, .slice dao nd dc, .slice fao nf fc] #[.int .i64 mem, .slice (some ⟨gb + 3, 0, none⟩) nd (nd + 5), .slice none 0 0] p [] 0 0) := ⟨box_kept hkA hb4 (fun f => f), box_kept hkA hz4 (fun f => f), box_kept hkA hq4 (fun f => f), hd4.kept hkA (fun f => f), rfl, ⟨hth, fun i f cg hi => absurd hi (by omega), fun t ht => absurd ht (by omega)⟩, fun i f cg _ hc => by simp at hc, fun cg hc => by simp at hc, hk4.trans hkA, hl4, hn4⟩
      have c2 := cell_block _ gb 2 _ _ _ hb4
      clear hkA hbz hth hq4 hb4 hz4 hd4 hk4 hn4 hl4
      go_upto_region 10 with fail
      clear mk c2
      generalize w4.alloc (.cells (zfn ((nf + 2) * 4)) 50) = w5 at *
      generalize w4.heap.size = gl at *
      go_wp2_with fail
      go_loopw [7, 8, 9] (fun i _ _ wr => ∃ (k : Nat) (cgs : List Nat), k ≤ nf ∧ i = .int .i64 (k : Int) ∧ Hid (LnK w wr gb gl #[.int .i64 mem, .slice dao nd dc, .slice fao nf fc] #[.int .i64 mem, .slice (some ⟨gb + 3, 0, none⟩) nd (nd + 5), .slice none 0 0] p cgs k 0)) (fun i _ _ _ => nf - (intOf i).toNat)
      case atStart => exact ⟨0, [], by omega, rfl, HLN⟩
      case round =>
        obtain ⟨k, cgs, hk, rfl, HLK⟩ := hrel
        clear HLN
        have c2 := cell_block _ gb 2 _ _ _ HLK.out.box
        by_cases hlk : k < nf
        · have hlkI : (k : Int) < (nf : Int) := by omega
          obtain ⟨g, o, f, e1, hgB, hfi, hfa⟩ := (HF.out.kept HLK.out.kept (fun _ _ f => f)).at (i := k) (by rw [← HNF.out]; exact hlk)
          subst e1
          obtain ⟨cao, cc, x0, x1, x2, x3, hri, hcl⟩ := fn_read hfa
          have hlc := (HO.out.fns f (List.mem_of_getElem? hfi)).len
          obtain ⟨fa, hfa1⟩ : ∃ z, z = f.a := ⟨_, rfl⟩
          obtain ⟨fl, hfl1⟩ : ∃ z, z = f.l := ⟨_, rfl⟩
          obtain ⟨fr, hfr1⟩ : ∃ z, z = f.r := ⟨_, rfl⟩
          obtain ⟨nc, hnc1⟩ : ∃ z, z = f.code.length := ⟨_, rfl⟩
          have hcells : f.cells (.slice cao nc cc) = [.int .i64 fa, .int .i64 fl, .int .i64 fr, .slice cao nc cc] := by rw [hfa1, hfl1, hfr1]; rfl
          rw [← hfa1] at x0
          rw [← hfl1] at x1
          rw [← hfr1] at x2
          rw [← hnc1] at x3 hri hlc hcl
          have hko := HLK.out.off
          have hbw := HLK.out.kept.size
          have hgg : g ≠ gl := by omega
          have hth : wr.there gl (k * 4) (#[.int .i64 fa, .int .i64 fl, .int .i64 fr, .slice cao nc cc] : Array Value).size := there_sub HLK.out.fns.there (by show k * 4 + 4 ≤ _; rw [← HNF.out]; omega)
          obtain ⟨hP1, hP2⟩ := HLK.out.fns.put (by rw [← HNF.out]; exact hlk) (#[.int .i64 fa, .int .i64 fl, .int .i64 fr, .slice cao nc cc] : Array Value).toList rfl
          have hk6 := kept_cells gl (#[.int .i64 fa, .int .i64 fl, .int .i64 fr, .slice cao nc cc] : Array Value).toList (k * 4) wr
          have HLS6 : Hid (LentF (wr.setCells gl (k * 4) (#[.int .i64 fa, .int .i64 fl, .int .i64 fr, .slice cao nc cc] : Array Value).toList) gl p.fns cgs k 0) := hP1
          have HRA6 : Hid ((wr.setCells gl (k * 4) (#[.int .i64 fa, .int .i64 fl, .int .i64 fr, .slice cao nc cc] : Array Value).toList).rangeAt gl (k * 4) (f.cells (.slice cao nc cc))) := by unfold Hid; rw [hcells]; exact hP2
          have HRI6 := hid_of (hri.keptB hk6 (fun q hq h0 e => by have := hcl q hq (by rw [hnc1]; exact h0); omega))
          have HX36 : Hid ((wr.setCells gl (k * 4) (#[.int .i64 fa, .int .i64 fl, .int .i64 fr, .slice cao nc cc] : Array Value).toList).cell? ⟨g, o + k * 4 + 3, none⟩ = some (.slice cao nc cc)) := hk6.cell x3 hgg
          have HC26 : Hid ((wr.setCells gl (k * 4) (#[.int .i64 fa, .int .i64 fl, .int .i64 fr, .slice cao nc cc] : Array Value).toList).heap[gb]? = some (.cells #[.int .i64 mem, .slice dao nd dc, .slice (some ⟨g, o, none⟩) nf fc] 25 (0, 0))) := box_kept hk6 HLK.out.box (by omega)
          have HK6 := hid_of hk6
          have HFI := hid_of hfi
          have HNC := hid_of hnc1
          have HGG := hid_of hgg
          have HCL := hid_of hcl
          clear hfa hri hcl hfa1 hfl1 hfr1 hnc1 hfi hcells hP1 hP2 hk6 hgg hko hbw
          go_upto_region 14 with (refine wpList_store_mid rfl 50 _ _ rfl gl (k * 4) #[.int .i64 fa, .int .i64 fl, .int .i64 fr, .slice cao nc cc] rfl rfl hth size50 (four_one _ _ _ _ rfl rfl rfl rfl) ?_)
          clear hth x0 x1 x2 x3 c2
          generalize wr.setCells gl (k * 4) (#[.int .i64 fa, .int .i64 fl, .int .i64 fr, .slice cao nc cc] : Array Value).toList = w6 at *
          have hcpc := lendC_copy w6 cao cc f.code (by have := HRI6.out; rw [HNC.out] at this; exact this)
          rw [← HNC.out] at hcpc
          obtain ⟨w7, hcp, hl7, hk7⟩ := hcpc
          have mk := make_ins w6 (nc + 3) (by omega)
          rw [show ((nc + 3 : Nat) : Int) = (nc : Int) + 3 from by omega] at mk
          have c26 := cell_block _ gb 2 _ _ _ HC26.out
          have x36 := HX36.out
          have hkB : Kept (fun _ => False) w6 (w6.alloc (.cells (zin ((nc + 3) * 2)) 52)) := (Kept.refl _ _).alloc _
          have c2B := cell_block _ gb 2 _ _ _ (box_kept hkB HC26.out (fun f => f))
          have x3B := hkB.cell HX36.out (fun f => f)
          have c27 := cell_block _ gb 2 _ _ _ (box_kept hk7 HC26.out (fun f => f))
          have x37 := hk7.cell HX36.out (fun f => f)
          have HL7 := hid_of hl7
          have HK7 := hid_of hk7
          clear hkB hl7 hk7
          go_upto_region 15 with fail
          clear mk c26 x36
          generalize w6.alloc (.cells (zin ((nc + 3) * 2)) 52) = w6b at *
          obtain ⟨gc, hgc⟩ : ∃ g, g = w6.heap.size := ⟨_, rfl⟩
          rw [← hgc] at hcp HL7 ⊢
          have HGC := hid_of hgc
          clear hgc
          go_upto_region 16 with fail
          clear hcp c2B x3B
          go_wp2_with fail
          clear c27 x37
          go_loopw [9] (fun i wq => ∃ j : Nat, j ≤ 3 ∧ i = .int .i64 ((nc + j : Nat) : Int) ∧ Hid (LentC wq gc f.code j) ∧ Hid (Kept (fun q => q = gc) w7 wq)) (fun i _ => (nc + 3) - (intOf i).toNat)
          case atStart => exact ⟨0, by omega, by simp, HL7, Kept.refl _ _⟩
          case round =>
            obtain ⟨j, hj3, rfl, HLC, HKC⟩ := hrel
            obtain ⟨m, hm⟩ : ∃ m, m = nc + j := ⟨_, rfl⟩
            by_cases hlj : j < 3
            · have hth : wr.there gc (m * 2) (#[.int .i64 (-9), .int .i64 0] : Array Value).size := there_sub HLC.out.there (by show m * 2 + 2 ≤ _; rw [← HNC.out]; omega)
              have hLS := HLC.out.step hlj
              rw [← HNC.out, ← hm] at hLS
              have hjI : (m : Int) < (nc : Int) + 3 := by omega
              have hm0 : (0 : Int) ≤ (m : Int) := by omega
              have HREL : Hid (LentC (wr.setCells gc (m * 2) (#[.int .i64 (-9), .int .i64 0] : Array Value).toList) gc f.code (j + 1)) := hLS
              have HREK : Hid (Kept (fun q => q = gc) w7 (wr.setCells gc (m * 2) (#[.int .i64 (-9), .int .i64 0] : Array Value).toList)) := HKC.out.trans (kept_cells _ _ _ _)
              have HM := hid_of hm
              rw [← hm]
              clear hLS hm HLC HKC
              go_upto_region 18 with (refine wpList_store_mid rfl 52 _ _ rfl gc (m * 2) #[.int .i64 (-9), .int .i64 0] rfl rfl hth size52 (two_one _ _ rfl rfl) ?_)
              have hmj := HM.out
              clear hth
              generalize wr.setCells gc (m * 2) (#[.int .i64 (-9), .int .i64 0] : Array Value).toList = w8 at *
              go_wp2
              go_roundw
              case rel => exact ⟨j + 1, by omega, by rw [show nc + (j + 1) = m + 1 by omega]; go_num, HREL, HREK⟩
              case measure => simp [intOf]; omega
            · obtain rfl : j = 3 := by omega
              have hjI : ¬ (((nc + 3 : Nat) : Int) < (nc : Int) + 3) := by omega
              clear hm
              have hk8 : Kept (fun _ => False) w6 wr := HK7.out.step HKC.out (fun i hi e => by have := HGC.out; omega)
              have c28 := cell_block _ gb 2 _ _ _ (box_kept hk8 HC26.out (fun f => f))
              have x38 := hk8.cell HX36.out (fun f => f)
              have hF8 := HLS6.out.kept hk8 (fun f => f)
              have hR8 : wr.rangeAt gl (k * 4) (f.cells (.slice cao nc cc)) := fun j u hj => hk8.cell (HRA6.out j u hj) (fun f => f)
              have l38 : wr.cell? ⟨gl, k * 4 + 3, none⟩ = some (.slice cao nc cc) := hR8 3 _ rfl
              have lf8 : wr.frozen? ⟨gl, k * 4 + 3, none⟩ = false := by
                have := (hF8.there (k * 4 + 3) (by rw [← HNF.out]; omega)).2
                rwa [Nat.zero_add] at this
              have hcl8 := hF8.code HLK.out.lenc HFI.out hR8 gc
              rw [← HNC.out] at hcl8
              have hgl8 := HLK.out.fns.lt
              have hs68 := HK6.out.size
              have hne8 : gc ≠ gl := by have := HGC.out; omega
              have hks8 := kept_set wr gl (k * 4 + 3) (.slice (some ⟨gc, 0, none⟩) nc (nc + 3))
              have HLN9 : Hid (LnK w (wr.setCell ⟨gl, k * 4 + 3, none⟩ (.slice (some ⟨gc, 0, none⟩) nc (nc + 3))) gb gl #[.int .i64 mem, .slice dao nd dc, .slice (some ⟨g, o, none⟩) nf fc] #[.int .i64 mem, .slice (some ⟨gb + 3, 0, none⟩) nd (nd + 5), .slice none 0 0] p (cgs ++ [gc]) (k + 1) 0) :=
                HLK.out.next HFI.out ((HK6.out.trans (hk8.mono (fun _ _ f => f.elim))).trans hks8) hcl8 (HLC.out.kept hks8 hne8) (by have := HGC.out; omega)
              clear hk8 hF8 hR8 hcl8 hks8 hne8 hgl8 hs68 HLC HKC HL7 HK7 HLS6 HRA6 HX36 HC26 HK6 HLK HRI6
              go_wp2
              go_roundw
              case rel => exact ⟨k + 1, cgs ++ [gc], by omega, by go_num, HLN9⟩
              case measure => simp [intOf]; omega
        · have hkn : k = nf := by omega
          have hlkI : ¬ ((k : Int) < (nf : Int)) := by omega
          have HLM : Hid (LnK w wr gb gl #[.int .i64 mem, .slice dao nd dc, .slice fao nf fc] #[.int .i64 mem, .slice (some ⟨gb + 3, 0, none⟩) nd (nd + 5), .slice none 0 0] p cgs p.fns.length 0) := by unfold Hid; have h9 := HLK.out; rw [hkn] at h9; rw [← HNF.out]; exact h9
          clear hkn HLK
          go_wp2_with fail
          clear c2
          go_loopw [10] (fun i wr => ∃ j : Nat, j ≤ 2 ∧ i = .int .i64 ((nf + j : Nat) : Int) ∧ Hid (LnK w wr gb gl #[.int .i64 mem, .slice dao nd dc, .slice fao nf fc] #[.int .i64 mem, .slice (some ⟨gb + 3, 0, none⟩) nd (nd + 5), .slice none 0 0] p cgs p.fns.length j)) (fun i _ => (nf + 2) - (intOf i).toNat)
          case atStart => exact ⟨0, by omega, by simp, HLM⟩
          case round =>
            obtain ⟨j, hj2, rfl, HLJ⟩ := hrel
            obtain ⟨m, hm⟩ : ∃ m, m = nf + j := ⟨_, rfl⟩
            clear HLM
            by_cases hlj : j < 2
            · have hth : wr.there gl (m * 4) (#[.int .i64 (-9), .int .i64 0, .int .i64 0, .slice none 0 0] : Array Value).size := there_sub HLJ.out.fns.there (by show m * 4 + 4 ≤ _; rw [← HNF.out]; omega)
              have hLS := HLJ.out.mark hlj
              rw [← HNF.out, ← hm] at hLS
              have hjI : (m : Int) < (nf : Int) + 2 := by omega
              have hm0 : (0 : Int) ≤ (m : Int) := by omega
              have HREL : Hid (LnK w (wr.setCells gl (m * 4) (#[.int .i64 (-9), .int .i64 0, .int .i64 0, .slice none 0 0] : Array Value).toList) gb gl #[.int .i64 mem, .slice dao nd dc, .slice fao nf fc] #[.int .i64 mem, .slice (some ⟨gb + 3, 0, none⟩) nd (nd + 5), .slice none 0 0] p cgs p.fns.length (j + 1)) := by
                unfold Hid
                rw [← HNF.out]
                exact hLS
              have HM := hid_of hm
              rw [← hm]
              clear hLS hm HLJ
              go_upto_region 23 with (refine wpList_store_mid rfl 50 _ _ rfl gl (m * 4) #[.int .i64 (-9), .int .i64 0, .int .i64 0, .slice none 0 0] rfl rfl hth size50 (four_one _ _ _ _ rfl rfl rfl rfl) ?_)
              have hmj := HM.out
              clear hth
              generalize wr.setCells gl (m * 4) (#[.int .i64 (-9), .int .i64 0, .int .i64 0, .slice none 0 0] : Array Value).toList = w8 at *
              go_wp2
              go_roundw
              case rel => exact ⟨j + 1, by omega, by rw [show nf + (j + 1) = m + 1 by omega]; go_num, HREL⟩
              case measure => simp [intOf]; omega
            · obtain rfl : j = 2 := by omega
              have hjI : ¬ (((nf + 2 : Nat) : Int) < (nf : Int) + 2) := by omega
              clear hm
              have c2 := cell_block _ gb 2 _ _ _ HLJ.out.box
              have q2 := cell_block _ (gb + 2) 2 _ _ _ HLJ.out.q
              have qf := frozen_block _ (gb + 2) 2 _ _ HLJ.out.q
              have hks := kept_set wr (gb + 2) 2 (.slice (some ⟨gl, 0, none⟩) nf (nf + 2))
              have hq9 : (wr.setCell ⟨gb + 2, 2, none⟩ (.slice (some ⟨gl, 0, none⟩) nf (nf + 2))).heap[gb + 2]? = some (.cells #[.int .i64 mem, .slice (some ⟨gb + 3, 0, none⟩) nd (nd + 5), .slice (some ⟨gl, 0, none⟩) nf (nf + 2)] 25 (0, 0)) := set_block _ _ 2 _ _ _ HLJ.out.q _
              have hz9 := box_kept hks HLJ.out.res (by omega)
              have hkr := kept_row (wr.setCell ⟨gb + 2, 2, none⟩ (.slice (some ⟨gl, 0, none⟩) nf (nf + 2))) (gb + 1) #[.int .i64 mem, .slice (some ⟨gb + 3, 0, none⟩) nd (nd + 5), .slice (some ⟨gl, 0, none⟩) nf (nf + 2)]
              have HXR := hid_of (setRow_heap (wr.setCell ⟨gb + 2, 2, none⟩ (.slice (some ⟨gl, 0, none⟩) nf (nf + 2))) (gb + 1) _ #[.int .i64 mem, .slice (some ⟨gb + 3, 0, none⟩) nd (nd + 5), .slice (some ⟨gl, 0, none⟩) nf (nf + 2)] 25 (0, 0) hz9)
              have HFIN : Hid (LendR p w (.returned (.agg #[.int .i64 mem, .slice (some ⟨gb + 3, 0, none⟩) nd (nd + 5), .slice (some ⟨gl, 0, none⟩) nf (nf + 2)])) ((wr.setCell ⟨gb + 2, 2, none⟩ (.slice (some ⟨gl, 0, none⟩) nf (nf + 2))).setRow (gb + 1) #[.int .i64 mem, .slice (some ⟨gb + 3, 0, none⟩) nd (nd + 5), .slice (some ⟨gl, 0, none⟩) nf (nf + 2)])) := by
                have hdn := HLJ.out.done ((hks.mono (fun _ _ e => .inr e)).trans (hkr.mono (fun _ _ e => .inl e)))
                have ho := HLJ.out.off
                exact ⟨gb + 3, gl, cgs, by rw [HMEM.out, HND.out, HNF.out]; rfl, hdn.1, hdn.2, by omega, by omega, HLJ.out.new⟩
              have HQ9 := hid_of hq9
              clear hks hkr HLJ hq9
              go_upto_region 26 with fail
              clear c2 q2 qf
              generalize wr.setCell ⟨gb + 2, 2, none⟩ (.slice (some ⟨gl, 0, none⟩) nf (nf + 2)) = w9 at *
              have y0 := cell_block _ (gb + 2) 0 _ _ _ HQ9.out
              have y1 := cell_block _ (gb + 2) 1 _ _ _ HQ9.out
              have y2 := cell_block _ (gb + 2) 2 _ _ _ HQ9.out
              go_wp2_with (refine wpList_store_row rfl 25 _ _ rfl (gb + 1) #[.int .i64 mem, .slice (some ⟨gb + 3, 0, none⟩) nd (nd + 5), .slice (some ⟨gl, 0, none⟩) nf (nf + 2)] rfl rfl 25 _ hz9 size25 rfl (three_one _ _ _ rfl rfl rfl) ?_)
              refine bodyPost_ret (v := .agg #[.int .i64 mem, .slice (some ⟨gb + 3, 0, none⟩) nd (nd + 5), .slice (some ⟨gl, 0, none⟩) nf (nf + 2)]) ?_ rfl HFIN.out
              exact results_cell_row (by rfl) _ _ (gb + 1) 25 _ (0, 0) _ (by rfl) HXR.out Try.underlying25 rfl size25
end Go.Proofs.Ytnjhnlohjhdcpaa

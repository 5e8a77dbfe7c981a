/-
  retortlaw12's Kept of a program by contract.
-/
import Derived.Test.YtnjhnlohjhdcpaaLq
import Derived.Test.YtnjhnlohjhdcpaaSh
namespace Go.Proofs.Ytnjhnlohjhdcpaa
open Go.ChangeShapes Go.WideShapes Go.ChangeAt Go.RowKit Go.Deep
set_option linter.unusedVariables false
set_option linter.unusedSimpArgs false
set_option maxRecDepth 100000

set_option maxHeartbeats 16000000 in
theorem held_p (gd gl : Nat) (cgs : List Nat) (v : Value) (p : PG) (w : World) (B : Nat) (hl : LentP w gd gl cgs p) (h : PgIs w B v p) (hB : B ≤ w.heap.size) (ho : p.Ok) :
    Calls Try.prog 13 #[lentV p gd gl, v] w fun e w' => e = .returned (.bool true) ∧ Kept (fun _ => False) w w' := by
  have hpg := h
  obtain ⟨dv, fv, rfl, hd, hdl, hf⟩ := h
  obtain ⟨dao, dc, rfl⟩ := hd.shape
  obtain ⟨fao, fc, rfl⟩ := hf.shape
  have hlv : lentV p gd gl = .agg #[.int .i64 p.mem, .slice (some ⟨gd, 0, none⟩) p.data.length (p.data.length + 5), .slice (some ⟨gl, 0, none⟩) p.fns.length (p.fns.length + 2)] := rfl
  have hpl := hl.pg
  obtain ⟨nd, hnd⟩ : ∃ n, n = p.data.length := ⟨_, rfl⟩
  obtain ⟨nf, hnf⟩ : ∃ n, n = p.fns.length := ⟨_, rfl⟩
  obtain ⟨mem, hmem⟩ : ∃ m, m = p.mem := ⟨_, rfl⟩
  rw [← hnf] at hf
  rw [hlv] at hpl ⊢
  rw [← hmem, ← hnd, ← hnf] at hpl ⊢
  rw [← hmem, ← hnd, ← hnf] at hpg
  have hbd := ho.data.2
  have hlf := ho.len
  rw [← hnd] at hbd
  rw [← hnf] at hlf
  have hkA : Kept (fun _ => False) w ((w.alloc (.cells #[.int .i64 mem, .slice (some ⟨gd, 0, none⟩) nd (nd + 5), .slice (some ⟨gl, 0, none⟩) nf (nf + 2)] 25)).alloc (.cells #[.int .i64 mem, .slice dao nd dc, .slice fao nf fc] 25)) := ((Kept.refl _ _).alloc _).alloc _
  have hbA : ((w.alloc (.cells #[.int .i64 mem, .slice (some ⟨gd, 0, none⟩) nd (nd + 5), .slice (some ⟨gl, 0, none⟩) nf (nf + 2)] 25)).alloc (.cells #[.int .i64 mem, .slice dao nd dc, .slice fao nf fc] 25)).heap[w.heap.size]? = some (.cells #[.int .i64 mem, .slice (some ⟨gd, 0, none⟩) nd (nd + 5), .slice (some ⟨gl, 0, none⟩) nf (nf + 2)] 25 (0, 0)) := by
    rw [heap_alloc_old _ _ (by simp)]
    exact heap_alloc_new w _
  have hbB := heap_alloc_new (w.alloc (.cells #[.int .i64 mem, .slice (some ⟨gd, 0, none⟩) nd (nd + 5), .slice (some ⟨gl, 0, none⟩) nf (nf + 2)] 25)) (.cells #[.int .i64 mem, .slice dao nd dc, .slice fao nf fc] 25)
  rw [show (w.alloc (.cells #[.int .i64 mem, .slice (some ⟨gd, 0, none⟩) nd (nd + 5), .slice (some ⟨gl, 0, none⟩) nf (nf + 2)] 25)).heap.size = w.heap.size + 1 by simp] at hbB
  have hS := rsame_any _ _ p p _ w.heap.size (hpl.kept hkA (fun _ _ f => f)) ((hpg.kept hkA (fun _ _ f => f)).up hB) hkA.size ho ho
  rw [sameP_refl] at hS
  have HS := hid_of hS
  have HL := hid_of hl
  have HF := hid_of hf
  have HO := hid_of ho
  have HNF := hid_of hnf
  have HND := hid_of hnd
  have HKA := hid_of hkA
  have HBA := hid_of hbA
  have HBB := hid_of hbB
  clear hpg hd hdl hf ho hnf hnd hmem hB hkA hbA hbB hS hl hpl hlv
  go_enter Try.func13, Try.ntmps13
  go_upto_region 1 with fail
  generalize (w.alloc (.cells #[.int .i64 mem, .slice (some ⟨gd, 0, none⟩) nd (nd + 5), .slice (some ⟨gl, 0, none⟩) nf (nf + 2)] 25)).alloc (.cells #[.int .i64 mem, .slice dao nd dc, .slice fao nf fc] 25) = w1 at *
  obtain ⟨gy, hgy⟩ : ∃ g, g = w.heap.size + 1 := ⟨_, rfl⟩
  obtain ⟨gx, hgx⟩ : ∃ g, g = w.heap.size := ⟨_, rfl⟩
  rw [← hgy] at HBB ⊢
  rw [← hgx] at HBA ⊢
  clear hgx hgy
  have a0 := cell_block _ gx 0 _ _ _ HBA.out
  have a1 := cell_block _ gx 1 _ _ _ HBA.out
  have a2 := cell_block _ gx 2 _ _ _ HBA.out
  have b0 := cell_block _ gy 0 _ _ _ HBB.out
  have b1 := cell_block _ gy 1 _ _ _ HBB.out
  have b2 := cell_block _ gy 2 _ _ _ HBB.out
  go_wp2_with fail
  refine HS.out.mono ?_
  rintro e w2 ⟨rfl, hk2⟩
  have HK2 := hid_of (HKA.out.trans hk2)
  have HBA2 := hid_of (box_kept hk2 HBA.out (fun f => f))
  have HBB2 := hid_of (box_kept hk2 HBB.out (fun f => f))
  have HL2 := hid_of (HL.out.same (HKA.out.trans hk2))
  have HF2 := hid_of (HF.out.kept (HKA.out.trans hk2) (fun _ _ f => f))
  clear hk2 HS HL HF HKA HBA HBB a0 a1 a2 b0 b1 b2
  have a1 := cell_block _ gx 1 _ _ _ HBA2.out
  have a2 := cell_block _ gx 2 _ _ _ HBA2.out
  have b1 := cell_block _ gy 1 _ _ _ HBB2.out
  have b2 := cell_block _ gy 2 _ _ _ HBB2.out
  clear HBA2 HBB2
  go_wp2_with fail
  go_loop [6] (fun i => ∃ j : Nat, j ≤ 5 ∧ i = .int .i64 ((nd : Int) + (j : Int))) (fun i => (nd + 5) - (intOf i).toNat)
  case atStart => exact ⟨0, by omega, by simp⟩
  case round =>
    obtain ⟨j, hj, rfl⟩ := hrel
    by_cases hlt : j < 5
    · have hm := HL2.out.dat.mark hlt
      rw [← HND.out] at hm
      have hjI : (nd : Int) + (j : Int) < (nd : Int) + 5 := by omega
      have hbi : ((nd : Int) + (j : Int)).toNat = nd + j := by omega
      go_wp2
      go_round
      case rel => exact ⟨j + 1, by omega, by go_num⟩
      case measure => simp [intOf]; omega
    · have hjI : ¬ ((nd : Int) + (j : Int) < (nd : Int) + 5) := by omega
      go_wp2_with fail
      go_loopw [8] (fun i wr => ∃ k d : Nat, k ≤ nf + 2 ∧ i = .int .i64 (k : Int) ∧ wr = w2.drewN d) (fun i _ => (nf + 2) - (intOf i).toNat)
      case atStart => exact ⟨0, 0, by omega, rfl, by simp [World.drewN]⟩
      case round =>
        obtain ⟨k, d, hk, rfl, rfl⟩ := hrel
        by_cases hend : k < nf + 2
        · have hendI : (k : Int) < (nf : Int) + 2 := by omega
          by_cases hlk : k < nf
          · have hlkI : ¬ ((nf : Int) ≤ (k : Int)) := by omega
            obtain ⟨g, o, f, e1, hgB, hfi, hfa⟩ := HF2.out.at (i := k) (by rw [← HNF.out]; exact hlk)
            subst e1
            obtain ⟨cao, cc, x0, x1, x2, x3, hri, hcl⟩ := fn_read hfa
            have hlc := (HO.out.fns f (List.mem_of_getElem? hfi)).len
            obtain ⟨nc, hnc1⟩ : ∃ z, z = f.code.length := ⟨_, rfl⟩
            obtain ⟨cg, hcg⟩ : ∃ cg, cgs[k]? = some cg := ⟨_, List.getElem?_eq_getElem (by rw [HL2.out.len, ← HNF.out]; exact hlk)⟩
            have hlr := HL2.out.fns.ents k f cg (by rw [← HNF.out]; exact hlk) hfi hcg
            have z3 : w2.cell? ⟨gl, k * 4 + 3, none⟩ = some (.slice (some ⟨cg, 0, none⟩) nc (nc + 3)) := by rw [hnc1]; exact hlr 3 _ rfl
            have HLC := hid_of (HL2.out.code k f cg hfi hcg)
            have HNC := hid_of hnc1
            rw [← hnc1] at x3 hlc
            clear x0 x1 x2 hri hcl hfa hnc1 hcg hlr hfi
            have hk0 : (0 : Int) ≤ (k : Int) := by omega
            have hn3 : (0 : Int) ≤ (nc : Int) + 3 := by omega
            go_upto_region 16 with fail
            go_quiet (fail)
            go_wp2_with fail
            go_loopw [10] (fun i wq => ∃ j d : Nat, j ≤ 3 ∧ i = .int .i64 ((nc + j : Nat) : Int) ∧ wq = w2.drewN d) (fun i _ => (nc + 3) - (intOf i).toNat)
            case atStart => exact ⟨0, _, by omega, by simp, rfl⟩
            case round =>
              obtain ⟨j2, d2, hj2, rfl, rfl⟩ := hrel
              obtain ⟨m, hm⟩ : ∃ m, m = nc + j2 := ⟨_, rfl⟩
              by_cases hlj : j2 < 3
              · have hjI : (m : Int) < (nc : Int) + 3 := by omega
                have hm0 : (0 : Int) ≤ (m : Int) := by omega
                have hR := HLC.out.marks j2 hlj
                rw [← HNC.out, ← hm] at hR
                have y0 : w2.cell? ⟨cg, m * 2, none⟩ = some (.int .i64 (-9)) := hR 0 _ rfl
                have y1 : w2.cell? ⟨cg, m * 2 + 1, none⟩ = some (.int .i64 0) := hR 1 _ rfl
                have hq : ∀ w, (binOp .neq 52 (.agg #[.int .i64 (-9), .int .i64 0]) (.agg #[.int .i64 (-9), .int .i64 0])).run Try.prog w = .ok (.bool false) w := fun w => by
                  rw [run_neq52]
                  rfl
                have HM := hid_of hm
                rw [← hm]
                clear hm hR
                go_wp2
                have hmj := HM.out
                go_roundw
                case rel => exact ⟨j2 + 1, d2, by omega, by rw [show nc + (j2 + 1) = m + 1 by omega]; go_num, rfl⟩
                case measure => simp [intOf]; omega
              · obtain rfl : j2 = 3 := by omega
                have hjI : ¬ (((nc + 3 : Nat) : Int) < (nc : Int) + 3) := by omega
                clear hm
                go_wp2
                go_roundw
                case rel => exact ⟨k + 1, d2, by omega, by go_num, rfl⟩
                case measure => simp [intOf]; omega
          · have hlkI : (nf : Int) ≤ (k : Int) := by omega
            have hR := HL2.out.fns.marks (k - nf) (by omega)
            rw [← HNF.out, show nf + (k - nf) = k by omega] at hR
            have y0 : w2.cell? ⟨gl, k * 4, none⟩ = some (.int .i64 (-9)) := hR 0 _ rfl
            clear hR
            go_wp2
            go_roundw
            case rel => exact ⟨k + 1, d, by omega, by go_num, rfl⟩
            case measure => simp [intOf]; omega
        · have hendI : ¬ ((k : Int) < (nf : Int) + 2) := by omega
          have HK3 := hid_of (kept_drewN HK2.out d)
          go_wp2
          go_ret
          exact ⟨rfl, HK3.out⟩
end Go.Proofs.Ytnjhnlohjhdcpaa

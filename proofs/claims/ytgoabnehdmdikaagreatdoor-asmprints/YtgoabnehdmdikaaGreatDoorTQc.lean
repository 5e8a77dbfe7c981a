/-
  TQc: Qc.
-/
import Derived.Test.YtgoabnehdmdikaaGreatDoorTQp
import Derived.Test.YtgoabnehdmdikaaGreatDoorTRg
namespace Go.Proofs.YtgoabnehdmdikaaGreatDoor
open Go.ChangeShapes Go.WideShapes Go.ChangeAt Go.RowKit Go.Deep
set_option linter.unusedVariables false
set_option linter.unusedSimpArgs false
set_option maxRecDepth 100000

set_option maxHeartbeats 8000000 in
theorem rcheck_any (v : Value) (p : PG) (w : World) (B : Nat) (h : PgIs w B v p) (hB : B ≤ w.heap.size) (ho : p.Ok) :
    Calls Tryz.prog 24 #[v] w fun e w' => e = .returned (.int .i64 (checkP p)) ∧ Kept (fun _ => False) w w' := by
  obtain ⟨dv, fv, rfl, hd, hdl, hf⟩ := h
  obtain ⟨dao, dc, rfl⟩ := hd.shape
  obtain ⟨fao, fc, rfl⟩ := hf.shape
  obtain ⟨nd, hnd⟩ : ∃ n, n = p.data.length := ⟨_, rfl⟩
  obtain ⟨nf, hnf⟩ : ∃ n, n = p.fns.length := ⟨_, rfl⟩
  obtain ⟨mem, hmem⟩ : ∃ m, m = p.mem := ⟨_, rfl⟩
  have hcs := bad_cases p
  rw [← hmem, ← hnd, ← hnf] at hcs
  rw [← hnf] at hf
  rw [← hmem, ← hnd, ← hnf]
  have hbd := ho.data.2
  rw [← hnd] at hbd
  have HF := hid_of hf
  have HO := hid_of ho
  have HNF := hid_of hnf
  have HBB := hid_of hB
  have hkA : Kept (fun _ => False) w (w.alloc (.cells #[.int .i64 mem, .slice dao nd dc, .slice fao nf fc] 26)) := (Kept.refl _ _).alloc _
  have hbA := heap_alloc_new w (.cells #[.int .i64 mem, .slice dao nd dc, .slice fao nf fc] 26)
  have c0 := cell_block _ w.heap.size 0 _ _ _ hbA
  have c1 := cell_block _ w.heap.size 1 _ _ _ hbA
  have c2 := cell_block _ w.heap.size 2 _ _ _ hbA
  have HKA := hid_of hkA
  have HBA := hid_of hbA
  clear hd hdl hf ho hnf hnd hmem hB hkA hbA
  rcases hcs with ⟨hcs, hbp⟩ | ⟨hcs, hbp⟩
  · have HC : Hid (checkP p = 121) := by unfold Hid checkP; rw [if_pos hbp]
    rw [HC.out]
    clear hbp
    rcases hcs with hcs | hcs | hcs | hcs | hcs
    all_goals
      go_enter Tryz.func24, Tryz.ntmps24
      go_wp2
      go_ret
      exact ⟨rfl, HKA.out⟩
  · have HC : Hid (checkP p = firstF p.fns) := by unfold Hid checkP; rw [if_neg (by rw [hbp]; decide)]
    clear hbp
    obtain ⟨h1, h2, h3, h4, h5⟩ := hcs
    rw [HC.out]
    go_enter Tryz.func24, Tryz.ntmps24
    go_wp2_with fail
    obtain ⟨gb, hgb⟩ : ∃ g, g = w.heap.size := ⟨_, rfl⟩
    have HBA2 : Hid ((w.alloc (.cells #[.int .i64 mem, .slice dao nd dc, .slice fao nf fc] 26)).heap[gb]? = some (.cells #[.int .i64 mem, .slice dao nd dc, .slice fao nf fc] 26 (0, 0))) := by unfold Hid; rw [hgb]; exact HBA.out
    rw [← hgb]
    clear hgb c0 c1 c2 HBA
    go_loopw [3] (fun i wr => ∃ k : Nat, k ≤ nf ∧ i = .int .i64 k ∧ Hid (∀ x ∈ p.fns.take k, errF x = 0) ∧ Hid (Kept (fun _ => False) w wr) ∧ Hid (wr.heap[gb]? = some (.cells #[.int .i64 mem, .slice dao nd dc, .slice fao nf fc] 26 (0, 0)))) (fun i _ => nf - (intOf i).toNat)
    case atStart => exact ⟨0, by omega, rfl, (fun x hx => by simp at hx), HKA, HBA2⟩
    case round =>
      obtain ⟨k, hk, rfl, HGO, HKR, HBR⟩ := hrel
      have c2 := cell_block _ gb 2 _ _ _ HBR.out
      by_cases hlt : k < nf
      · have hltI : (k : Int) < (nf : Int) := by omega
        obtain ⟨g, o, f, e1, hgB, hfi, hfa⟩ := (HF.out.kept HKR.out (fun _ _ f => f)).at (i := k) (by rw [← HNF.out]; exact hlt)
        subst e1
        obtain ⟨cao, cc, x0, x1, x2, x3, hri, hcl⟩ := fn_read hfa
        have hfo := HO.out.fns f (List.mem_of_getElem? hfi)
        have hcs2 := badF_cases f
        obtain ⟨fa, hfa'⟩ : ∃ z, z = f.a := ⟨_, rfl⟩
        obtain ⟨fl, hfl'⟩ : ∃ z, z = f.l := ⟨_, rfl⟩
        obtain ⟨fr, hfr'⟩ : ∃ z, z = f.r := ⟨_, rfl⟩
        obtain ⟨nc, hnc⟩ : ∃ z, z = f.code.length := ⟨_, rfl⟩
        have hen := encode_ref (.slice cao nc cc) f.code
        have hncb := hfo.len
        rw [← hfa'] at x0
        rw [← hfl'] at x1
        rw [← hfr'] at x2
        rw [← hnc] at x3 hri hncb
        rw [← hfa', ← hfl', ← hfr', ← hnc] at hcs2
        have hkB : Kept (fun _ => False) wr (wr.alloc (.cells #[.int .i64 fa, .int .i64 fl, .int .i64 fr, .slice cao nc cc] 78)) := (Kept.refl _ _).alloc _
        have hbB := heap_alloc_new wr (.cells #[.int .i64 fa, .int .i64 fl, .int .i64 fr, .slice cao nc cc] 78)
        have HEN := hid_of (hen _ (hri.kept hkB (fun _ _ f => f)) hfo.code (by rw [← hnc]; omega))
        have HKB := hid_of (HKR.out.trans hkB)
        have HBB2 : Hid ((wr.alloc (.cells #[.int .i64 fa, .int .i64 fl, .int .i64 fr, .slice cao nc cc] 78)).heap[gb]? = some (.cells #[.int .i64 mem, .slice dao nd dc, .slice (some ⟨g, o, none⟩) nf fc] 26 (0, 0))) := (hkB.block gb (Array.getElem?_eq_some_iff.1 HBR.out).1 (fun f => f)).trans HBR.out
        have y0 := cell_block _ wr.heap.size 0 _ _ _ hbB
        have y1 := cell_block _ wr.heap.size 1 _ _ _ hbB
        have y2 := cell_block _ wr.heap.size 2 _ _ _ hbB
        have y3 := cell_block _ wr.heap.size 3 _ _ _ hbB
        have HFI := hid_of hfi
        clear hfa hri hcl hfo hfa' hfl' hfr' hnc hen hkB hbB hfi
        rcases hcs2 with ⟨hcs2, he⟩ | ⟨hcs2, he⟩
        · have HR : Hid (firstF p.fns = 121) := by unfold Hid; rw [firstF_bad p.fns k f HGO.out HFI.out (by rw [he]; decide), he]
          clear he HEN
          rcases hcs2 with hcs2 | hcs2 | hcs2 | hcs2 | hcs2 | hcs2 | hcs2 | hcs2
          all_goals
            go_wp2
            go_ret
            exact ⟨by rw [HR.out]; rfl, HKB.out⟩
        · obtain ⟨q1, q2, q3, q4, q5, q6, q7, q8⟩ := hcs2
          have HE := hid_of he
          clear he
          go_wp2_with fail
          refine HEN.out.mono ?_
          rintro e w6 ⟨hk6, he6⟩
          have HK6 := hid_of (HKB.out.trans hk6)
          have HB6 : Hid (w6.heap[gb]? = some (.cells #[.int .i64 mem, .slice dao nd dc, .slice (some ⟨g, o, none⟩) nf fc] 26 (0, 0))) := (hk6.block gb (Array.getElem?_eq_some_iff.1 HBB2.out).1 (fun f => f)).trans HBB2.out
          clear hk6 HEN HKB HBB2 y0 y1 y2 y3 x0 x1 x2 x3
          by_cases hE : encE f.code = 0
          · rw [if_pos hE] at he6
            obtain ⟨v6, rfl, ho6⟩ := he6
            obtain ⟨bo, bc, hv6⟩ := ownsRow_shape ho6
            obtain ⟨bl, hbl⟩ : ∃ n, n = (encB f.code).length := ⟨_, rfl⟩
            rw [← hbl] at hv6
            subst hv6
            have HGO2 := hid_of (take_good HGO.out HFI.out (by rw [HE.out]; exact hE))
            clear ho6 hbl hE
            go_wp2
            go_roundw
            case rel => exact ⟨k + 1, by omega, by go_num, HGO2, HK6, HB6⟩
            case measure => simp [intOf]; omega
          · rw [if_neg hE] at he6
            subst he6
            have HR : Hid (firstF p.fns = encE f.code) := by unfold Hid; rw [firstF_bad p.fns k f HGO.out HFI.out (by rw [HE.out]; exact hE), HE.out]
            obtain ⟨ee, hee⟩ : ∃ e, e = encE f.code := ⟨_, rfl⟩
            rw [← hee] at HR hE ⊢
            have hb : (ee == 0) = false := by simp; exact hE
            have hb2 : (ee != 0) = true := by simp; exact hE
            clear hee
            go_wp2
            go_ret
            exact ⟨by rw [HR.out]; rfl, HK6.out⟩
      · have hnl : ¬ ((k : Int) < (nf : Int)) := by omega
        have HR : Hid (firstF p.fns = 0) := by
          unfold Hid
          have := HGO.out
          rw [List.take_of_length_le (by rw [← HNF.out]; omega)] at this
          exact firstF_good _ this
        go_wp2
        go_ret
        exact ⟨by rw [HR.out]; rfl, HKR.out⟩
end Go.Proofs.YtgoabnehdmdikaaGreatDoor

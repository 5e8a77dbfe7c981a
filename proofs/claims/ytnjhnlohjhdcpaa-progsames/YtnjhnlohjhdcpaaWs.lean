/-
  ProgSames: the walk.
-/
import Derived.Test.YtnjhnlohjhdcpaaLr
import Derived.Test.YtnjhnlohjhdcpaaTw
import Derived.Test.YtnjhnlohjhdcpaaBp
namespace Go.Proofs.Ytnjhnlohjhdcpaa
open Go.ChangeShapes Go.WideShapes Go.ChangeAt Go.RowKit Go.Deep
set_option linter.unusedVariables false
set_option linter.unusedSimpArgs false
set_option maxRecDepth 100000

theorem sameP_comm {a b : PG} (ha : a.Ok) (hb : b.Ok) : sameP b a = sameP a b := by
  cases h : sameP a b with
  | true => rw [sameP_eq ha hb h, sameP_refl]
  | false =>
    cases h' : sameP b a with
    | false => rfl
    | true => rw [sameP_eq hb ha h', sameP_refl] at h; cases h
set_option maxHeartbeats 16000000 in
theorem sames_walk (u v : Value) (a b : PG) (w : World) (B : Nat) (ha : PgIs w B u a) (hb : PgIs w B v b) (hB : B ≤ w.heap.size) (hoa : a.Ok) (hob : b.Ok) : Calls Try.prog 6 #[u, v] w fun e w' => e = .returned (.bool true) ∧ Kept (fun _ => False) w w' := by
  have hag := ha
  obtain ⟨dva, fva, rfl, hda, hdla, hfa⟩ := ha
  obtain ⟨daa, dca, rfl⟩ := hda.shape
  obtain ⟨faa, fca, rfl⟩ := hfa.shape
  obtain ⟨nda, hnda⟩ : ∃ n, n = a.data.length := ⟨_, rfl⟩
  obtain ⟨nfa, hnfa⟩ : ∃ n, n = a.fns.length := ⟨_, rfl⟩
  obtain ⟨mea, hmea⟩ : ∃ m, m = a.mem := ⟨_, rfl⟩
  have hlva : ∀ gd gl, lentV a gd gl = .agg #[.int .i64 mea, .slice (some ⟨gd, 0, none⟩) nda (nda + 5), .slice (some ⟨gl, 0, none⟩) nfa (nfa + 2)] := fun gd gl => by unfold lentV; rw [← hmea, ← hnda, ← hnfa]
  rw [← hmea, ← hnda, ← hnfa] at hag ⊢
  have HLVa := hid_of hlva
  have hbg := hb
  obtain ⟨dvb, fvb, rfl, hdb, hdlb, hfb⟩ := hb
  obtain ⟨dab, dcb, rfl⟩ := hdb.shape
  obtain ⟨fab, fcb, rfl⟩ := hfb.shape
  obtain ⟨ndb, hndb⟩ : ∃ n, n = b.data.length := ⟨_, rfl⟩
  obtain ⟨nfb, hnfb⟩ : ∃ n, n = b.fns.length := ⟨_, rfl⟩
  obtain ⟨meb, hmeb⟩ : ∃ m, m = b.mem := ⟨_, rfl⟩
  have hlvb : ∀ gd gl, lentV b gd gl = .agg #[.int .i64 meb, .slice (some ⟨gd, 0, none⟩) ndb (ndb + 5), .slice (some ⟨gl, 0, none⟩) nfb (nfb + 2)] := fun gd gl => by unfold lentV; rw [← hmeb, ← hndb, ← hnfb]
  rw [← hmeb, ← hndb, ← hnfb] at hbg ⊢
  have HLVb := hid_of hlvb
  have hkA : Kept (fun _ => False) w ((w.alloc (.cells #[.int .i64 mea, .slice daa nda dca, .slice faa nfa fca] 25)).alloc (.cells #[.int .i64 meb, .slice dab ndb dcb, .slice fab nfb fcb] 25)) := ((Kept.refl _ _).alloc _).alloc _
  have hbA : ((w.alloc (.cells #[.int .i64 mea, .slice daa nda dca, .slice faa nfa fca] 25)).alloc (.cells #[.int .i64 meb, .slice dab ndb dcb, .slice fab nfb fcb] 25)).heap[w.heap.size]? = some (.cells #[.int .i64 mea, .slice daa nda dca, .slice faa nfa fca] 25 (0, 0)) := by
    rw [heap_alloc_old _ _ (by simp)]
    exact heap_alloc_new w _
  have hbB := heap_alloc_new (w.alloc (.cells #[.int .i64 mea, .slice daa nda dca, .slice faa nfa fca] 25)) (.cells #[.int .i64 meb, .slice dab ndb dcb, .slice fab nfb fcb] 25)
  rw [show (w.alloc (.cells #[.int .i64 mea, .slice daa nda dca, .slice faa nfa fca] 25)).heap.size = w.heap.size + 1 by simp] at hbB
  have HGA0 := hid_of (hag.kept hkA (fun _ _ f => f))
  have HGB0 := hid_of (hbg.kept hkA (fun _ _ f => f))
  have HS0 := hid_of (Nat.le_trans hB hkA.size)
  have HOA := hid_of hoa
  have HOB := hid_of hob
  have HK0 := hid_of hkA
  have HBA0 := hid_of hbA
  have HBB0 := hid_of hbB
  have HNDA := hid_of hnda
  have HNFA := hid_of hnfa
  have HMEA := hid_of hmea
  clear hag hbg hda hdla hfa hdb hdlb hfb hoa hob hnda hnfa hmea hndb hnfb hmeb hB hkA hbA hbB hlva hlvb
  go_enter Try.func6, Try.ntmps6
  go_upto_region 1 with fail
  generalize ((w.alloc (.cells #[.int .i64 mea, .slice daa nda dca, .slice faa nfa fca] 25)).alloc (.cells #[.int .i64 meb, .slice dab ndb dcb, .slice fab nfb fcb] 25)) = w0 at *
  generalize w.heap.size + 1 = gb at *
  generalize w.heap.size = ga at *
  go_wp2_with fail
  refine (known_any w0).mono ?_
  rintro e w1 ⟨rfl, hk1⟩
  have HGA1 := hid_of (HGA0.out.kept hk1 (fun _ _ f => f))
  have HGB1 := hid_of (HGB0.out.kept hk1 (fun _ _ f => f))
  have HBA1 := hid_of (box_kept hk1 HBA0.out (fun f => f))
  have HBB1 := hid_of (box_kept hk1 HBB0.out (fun f => f))
  have HK1 := hid_of (HK0.out.trans hk1)
  have HS1 := hid_of (Nat.le_trans HS0.out hk1.size)
  clear hk1
  clear HGA0 HGB0 HBA0 HBB0 HK0 HS0
  have c0 := cell_block _ ga 0 _ _ _ HBA1.out
  have c1 := cell_block _ ga 1 _ _ _ HBA1.out
  have c2 := cell_block _ ga 2 _ _ _ HBA1.out
  have HLX := hid_of (lend_p _ a w1 B HGA1.out HS1.out HOA.out)
  go_wp2_with fail
  refine HLX.out.mono ?_
  rintro e w2 ⟨gda, gla, cgsa, rfl, hlp, hk2, _⟩
  rw [HLVa.out gda gla]
  have hkM : Kept (fun _ => False) w2 (w2.alloc (.cells #[.int .i64 mea, .slice (some ⟨gda, 0, none⟩) nda (nda + 5), .slice (some ⟨gla, 0, none⟩) nfa (nfa + 2)] 25)) := (Kept.refl _ _).alloc _
  have HBX2 := hid_of (heap_alloc_new w2 (.cells #[.int .i64 mea, .slice (some ⟨gda, 0, none⟩) nda (nda + 5), .slice (some ⟨gla, 0, none⟩) nfa (nfa + 2)] 25))
  have HLPA2 := hid_of (hlp.same hkM)
  have hk2' := hk2.trans hkM
  have HGA2 := hid_of (HGA1.out.kept hk2' (fun _ _ f => f))
  have HGB2 := hid_of (HGB1.out.kept hk2' (fun _ _ f => f))
  have HBA2 := hid_of (box_kept hk2' HBA1.out (fun f => f))
  have HBB2 := hid_of (box_kept hk2' HBB1.out (fun f => f))
  have HK2 := hid_of (HK1.out.trans hk2')
  have HS2 := hid_of (Nat.le_trans HS1.out hk2'.size)
  clear hk2 hk2' hkM hlp HLX c0 c1 c2
  clear HGA1 HGB1 HBA1 HBB1 HK1 HS1
  go_upto_region 4 with fail
  generalize w2.alloc (.cells #[.int .i64 mea, .slice (some ⟨gda, 0, none⟩) nda (nda + 5), .slice (some ⟨gla, 0, none⟩) nfa (nfa + 2)] 25) = w2b at *
  generalize w2.heap.size = gx at *
  have c0 := cell_block _ gb 0 _ _ _ HBB2.out
  have c1 := cell_block _ gb 1 _ _ _ HBB2.out
  have c2 := cell_block _ gb 2 _ _ _ HBB2.out
  have HLY := hid_of (lend_p _ b w2b B HGB2.out HS2.out HOB.out)
  go_wp2_with fail
  refine HLY.out.mono ?_
  rintro e w3 ⟨gdb, glb, cgsb, rfl, hlp, hk3, _⟩
  rw [HLVb.out gdb glb]
  have hkM : Kept (fun _ => False) w3 (w3.alloc (.cells #[.int .i64 meb, .slice (some ⟨gdb, 0, none⟩) ndb (ndb + 5), .slice (some ⟨glb, 0, none⟩) nfb (nfb + 2)] 25)) := (Kept.refl _ _).alloc _
  have HBY3 := hid_of (heap_alloc_new w3 (.cells #[.int .i64 meb, .slice (some ⟨gdb, 0, none⟩) ndb (ndb + 5), .slice (some ⟨glb, 0, none⟩) nfb (nfb + 2)] 25))
  have HLPB3 := hid_of (hlp.same hkM)
  have hk3' := hk3.trans hkM
  have HGA3 := hid_of (HGA2.out.kept hk3' (fun _ _ f => f))
  have HGB3 := hid_of (HGB2.out.kept hk3' (fun _ _ f => f))
  have HBA3 := hid_of (box_kept hk3' HBA2.out (fun f => f))
  have HBB3 := hid_of (box_kept hk3' HBB2.out (fun f => f))
  have HK3 := hid_of (HK2.out.trans hk3')
  have HS3 := hid_of (Nat.le_trans HS2.out hk3'.size)
  have HBX3 := hid_of (box_kept hk3' HBX2.out (fun f => f))
  have HLPA3 := hid_of (HLPA2.out.same hk3')
  clear hk3 hk3' hkM hlp HLY c0 c1 c2
  clear HGA2 HGB2 HBA2 HBB2 HK2 HS2 HBX2 HLPA2
  go_upto_region 5 with fail
  generalize w3.alloc (.cells #[.int .i64 meb, .slice (some ⟨gdb, 0, none⟩) ndb (ndb + 5), .slice (some ⟨glb, 0, none⟩) nfb (nfb + 2)] 25) = w3b at *
  generalize w3.heap.size = gy at *
  have c0 := cell_block _ gx 0 _ _ _ HBX3.out
  have c1 := cell_block _ gx 1 _ _ _ HBX3.out
  have c2 := cell_block _ gx 2 _ _ _ HBX3.out
  have hpx : PgIs w3b w3b.heap.size (.agg #[.int .i64 mea, .slice (some ⟨gda, 0, none⟩) nda (nda + 5), .slice (some ⟨gla, 0, none⟩) nfa (nfa + 2)]) a := by rw [← HLVa.out gda gla]; exact HLPA3.out.pg
  have HTW := hid_of (twin_p _ a w3b w3b.heap.size hpx (Nat.le_refl _) HOA.out)
  clear hpx
  go_wp2_with fail
  refine HTW.out.mono ?_
  rintro e w4 ⟨⟨tdv, tfv, tcv, rfl, hop⟩, hk4⟩
  obtain ⟨tda, tdc, hds⟩ := ownsRow_shape hop.dat
  obtain ⟨tfa, tfc, hfs⟩ := ownsRow_shape hop.fns.row
  have hpt := hop.pg
  rw [← HNDA.out] at hds
  rw [← HNFA.out] at hfs
  rw [← HMEA.out] at hpt ⊢
  subst hds
  subst hfs
  have hkM : Kept (fun _ => False) w4 (w4.alloc (.cells #[.int .i64 mea, .slice tda nda tdc, .slice tfa nfa tfc] 25)) := (Kept.refl _ _).alloc _
  have HBT4 := hid_of (heap_alloc_new w4 (.cells #[.int .i64 mea, .slice tda nda tdc, .slice tfa nfa tfc] 25))
  have HPT4 := hid_of ((hpt.kept hkM (fun _ _ f => f)).up hkM.size)
  have hk4' := hk4.trans hkM
  have HGA4 := hid_of (HGA3.out.kept hk4' (fun _ _ f => f))
  have HGB4 := hid_of (HGB3.out.kept hk4' (fun _ _ f => f))
  have HBA4 := hid_of (box_kept hk4' HBA3.out (fun f => f))
  have HBB4 := hid_of (box_kept hk4' HBB3.out (fun f => f))
  have HK4 := hid_of (HK3.out.trans hk4')
  have HS4 := hid_of (Nat.le_trans HS3.out hk4'.size)
  have HBX4 := hid_of (box_kept hk4' HBX3.out (fun f => f))
  have HLPA4 := hid_of (HLPA3.out.same hk4')
  have HBY4 := hid_of (box_kept hk4' HBY3.out (fun f => f))
  have HLPB4 := hid_of (HLPB3.out.same hk4')
  clear hk4 hk4' hkM hop hpt HTW c0 c1 c2
  clear HGA3 HGB3 HBA3 HBB3 HK3 HS3 HBX3 HLPA3 HBY3 HLPB3
  go_upto_region 6 with fail
  generalize w4.alloc (.cells #[.int .i64 mea, .slice tda nda tdc, .slice tfa nfa tfc] 25) = w7 at *
  generalize w4.heap.size = gt at *
  have HA0 := hid_of (show w7.cell? ⟨ga, 0, none⟩ = some (.int .i64 mea) from cell_block _ ga 0 _ _ _ HBA4.out)
  have HA1 := hid_of (show w7.cell? ⟨ga, 1, none⟩ = some (.slice daa nda dca) from cell_block _ ga 1 _ _ _ HBA4.out)
  have HA2 := hid_of (show w7.cell? ⟨ga, 2, none⟩ = some (.slice faa nfa fca) from cell_block _ ga 2 _ _ _ HBA4.out)
  have HB0 := hid_of (show w7.cell? ⟨gb, 0, none⟩ = some (.int .i64 meb) from cell_block _ gb 0 _ _ _ HBB4.out)
  have HB1 := hid_of (show w7.cell? ⟨gb, 1, none⟩ = some (.slice dab ndb dcb) from cell_block _ gb 1 _ _ _ HBB4.out)
  have HB2 := hid_of (show w7.cell? ⟨gb, 2, none⟩ = some (.slice fab nfb fcb) from cell_block _ gb 2 _ _ _ HBB4.out)
  have HX0 := hid_of (show w7.cell? ⟨gx, 0, none⟩ = some (.int .i64 mea) from cell_block _ gx 0 _ _ _ HBX4.out)
  have HX1 := hid_of (show w7.cell? ⟨gx, 1, none⟩ = some (.slice (some ⟨gda, 0, none⟩) nda (nda + 5)) from cell_block _ gx 1 _ _ _ HBX4.out)
  have HX2 := hid_of (show w7.cell? ⟨gx, 2, none⟩ = some (.slice (some ⟨gla, 0, none⟩) nfa (nfa + 2)) from cell_block _ gx 2 _ _ _ HBX4.out)
  have HY0 := hid_of (show w7.cell? ⟨gy, 0, none⟩ = some (.int .i64 meb) from cell_block _ gy 0 _ _ _ HBY4.out)
  have HY1 := hid_of (show w7.cell? ⟨gy, 1, none⟩ = some (.slice (some ⟨gdb, 0, none⟩) ndb (ndb + 5)) from cell_block _ gy 1 _ _ _ HBY4.out)
  have HY2 := hid_of (show w7.cell? ⟨gy, 2, none⟩ = some (.slice (some ⟨glb, 0, none⟩) nfb (nfb + 2)) from cell_block _ gy 2 _ _ _ HBY4.out)
  have HT0 := hid_of (show w7.cell? ⟨gt, 0, none⟩ = some (.int .i64 mea) from cell_block _ gt 0 _ _ _ HBT4.out)
  have HT1 := hid_of (show w7.cell? ⟨gt, 1, none⟩ = some (.slice tda nda tdc) from cell_block _ gt 1 _ _ _ HBT4.out)
  have HT2 := hid_of (show w7.cell? ⟨gt, 2, none⟩ = some (.slice tfa nfa tfc) from cell_block _ gt 2 _ _ _ HBT4.out)
  obtain ⟨q, hq⟩ : ∃ q, q = sameP a b := ⟨_, rfl⟩
  have HPX : Hid (∀ W, Kept (fun _ => False) w7 W → PgIs W W.heap.size (.agg #[.int .i64 mea, .slice (some ⟨gda, 0, none⟩) nda (nda + 5), .slice (some ⟨gla, 0, none⟩) nfa (nfa + 2)]) a) := fun W hW => by rw [← HLVa.out gda gla]; exact (HLPA4.out.same hW).pg
  have HPY : Hid (∀ W, Kept (fun _ => False) w7 W → PgIs W W.heap.size (.agg #[.int .i64 meb, .slice (some ⟨gdb, 0, none⟩) ndb (ndb + 5), .slice (some ⟨glb, 0, none⟩) nfb (nfb + 2)]) b) := fun W hW => by rw [← HLVb.out gdb glb]; exact (HLPB4.out.same hW).pg
  have HPA : Hid (∀ W, Kept (fun _ => False) w7 W → PgIs W W.heap.size (.agg #[.int .i64 mea, .slice daa nda dca, .slice faa nfa fca]) a) := fun W hW => (HGA4.out.kept hW (fun _ _ f => f)).up (Nat.le_trans HS4.out hW.size)
  have HPB : Hid (∀ W, Kept (fun _ => False) w7 W → PgIs W W.heap.size (.agg #[.int .i64 meb, .slice dab ndb dcb, .slice fab nfb fcb]) b) := fun W hW => (HGB4.out.kept hW (fun _ _ f => f)).up (Nat.le_trans HS4.out hW.size)
  have HPT : Hid (∀ W, Kept (fun _ => False) w7 W → PgIs W W.heap.size (.agg #[.int .i64 mea, .slice tda nda tdc, .slice tfa nfa tfc]) a) := fun W hW => (HPT4.out.kept hW (fun _ _ f => f)).up hW.size
  have HCxy : Hid (∀ W, Kept (fun _ => False) w7 W → Calls Try.prog 23 #[.agg #[.int .i64 mea, .slice (some ⟨gda, 0, none⟩) nda (nda + 5), .slice (some ⟨gla, 0, none⟩) nfa (nfa + 2)], .agg #[.int .i64 meb, .slice (some ⟨gdb, 0, none⟩) ndb (ndb + 5), .slice (some ⟨glb, 0, none⟩) nfb (nfb + 2)]] W fun e w' => e = .returned (.bool q) ∧ Kept (fun _ => False) W w') := fun W hW => by rw [hq]; exact same_p _ _ a b W W.heap.size (HPX.out W hW) (HPY.out W hW) (Nat.le_refl _) HOA.out HOB.out
  have HCyx : Hid (∀ W, Kept (fun _ => False) w7 W → Calls Try.prog 23 #[.agg #[.int .i64 meb, .slice (some ⟨gdb, 0, none⟩) ndb (ndb + 5), .slice (some ⟨glb, 0, none⟩) nfb (nfb + 2)], .agg #[.int .i64 mea, .slice (some ⟨gda, 0, none⟩) nda (nda + 5), .slice (some ⟨gla, 0, none⟩) nfa (nfa + 2)]] W fun e w' => e = .returned (.bool q) ∧ Kept (fun _ => False) W w') := fun W hW => by rw [hq, ← sameP_comm HOA.out HOB.out]; exact same_p _ _ b a W W.heap.size (HPY.out W hW) (HPX.out W hW) (Nat.le_refl _) HOB.out HOA.out
  have HCab : Hid (∀ W, Kept (fun _ => False) w7 W → Calls Try.prog 19 #[.agg #[.int .i64 mea, .slice daa nda dca, .slice faa nfa fca], .agg #[.int .i64 meb, .slice dab ndb dcb, .slice fab nfb fcb]] W fun e w' => e = .returned (.bool q) ∧ Kept (fun _ => False) W w') := fun W hW => by rw [hq]; exact rsame_any _ _ a b W W.heap.size (HPA.out W hW) (HPB.out W hW) (Nat.le_refl _) HOA.out HOB.out
  have HCxt : Hid (∀ W, Kept (fun _ => False) w7 W → Calls Try.prog 23 #[.agg #[.int .i64 mea, .slice (some ⟨gda, 0, none⟩) nda (nda + 5), .slice (some ⟨gla, 0, none⟩) nfa (nfa + 2)], .agg #[.int .i64 mea, .slice tda nda tdc, .slice tfa nfa tfc]] W fun e w' => e = .returned (.bool true) ∧ Kept (fun _ => False) W w') := fun W hW => by rw [← sameP_refl a]; exact same_p _ _ a a W W.heap.size (HPX.out W hW) (HPT.out W hW) (Nat.le_refl _) HOA.out HOA.out
  have HCta : Hid (∀ W, Kept (fun _ => False) w7 W → Calls Try.prog 19 #[.agg #[.int .i64 mea, .slice tda nda tdc, .slice tfa nfa tfc], .agg #[.int .i64 mea, .slice daa nda dca, .slice faa nfa fca]] W fun e w' => e = .returned (.bool true) ∧ Kept (fun _ => False) W w') := fun W hW => by rw [← sameP_refl a]; exact rsame_any _ _ a a W W.heap.size (HPT.out W hW) (HPA.out W hW) (Nat.le_refl _) HOA.out HOA.out
  have HKxa : Hid (∀ W, Kept (fun _ => False) w7 W → Calls Try.prog 13 #[.agg #[.int .i64 mea, .slice (some ⟨gda, 0, none⟩) nda (nda + 5), .slice (some ⟨gla, 0, none⟩) nfa (nfa + 2)], .agg #[.int .i64 mea, .slice daa nda dca, .slice faa nfa fca]] W fun e w' => e = .returned (.bool true) ∧ Kept (fun _ => False) W w') := fun W hW => by rw [← HLVa.out gda gla]; exact held_p gda gla cgsa _ a W W.heap.size (HLPA4.out.same hW) (HPA.out W hW) (Nat.le_refl _) HOA.out
  have HKyb : Hid (∀ W, Kept (fun _ => False) w7 W → Calls Try.prog 13 #[.agg #[.int .i64 meb, .slice (some ⟨gdb, 0, none⟩) ndb (ndb + 5), .slice (some ⟨glb, 0, none⟩) nfb (nfb + 2)], .agg #[.int .i64 meb, .slice dab ndb dcb, .slice fab nfb fcb]] W fun e w' => e = .returned (.bool true) ∧ Kept (fun _ => False) W w') := fun W hW => by rw [← HLVb.out gdb glb]; exact held_p gdb glb cgsb _ b W W.heap.size (HLPB4.out.same hW) (HPB.out W hW) (Nat.le_refl _) HOB.out
  clear hq
  refine wp_region_held_drew (S := fun w' => Kept (fun _ => False) w7 w') (by kernel_rfl) (Kept.refl _ _).drew (fun hHeld => ?_)
  refine wpAnyH_take (i := 0) (v := ?_) rfl (by kernel_rfl) (by kernel_rfl) (by kernel_rfl) (fun _ _ _ h => h) (Or.inl ⟨by rfl, ?_⟩) (by assumption) ?_
  rotate_left 1
  · intro w hSw
    have q0 := Kept.cell hSw HX0.out (fun f => f)
    have q1 := Kept.cell hSw HX1.out (fun f => f)
    have q2 := Kept.cell hSw HX2.out (fun f => f)
    go_simp
    try with_reducible rfl
  try simp only [Act.put, List.getElem_toArray, List.getElem_cons_zero, List.getElem_cons_succ, List.setIfInBounds_toArray, List.set_cons_zero, List.set_cons_succ]
  refine wpAnyH_take (i := 1) (v := ?_) rfl (by kernel_rfl) (by kernel_rfl) (by kernel_rfl) (fun _ _ _ h => h) (Or.inl ⟨by rfl, ?_⟩) (by assumption) ?_
  rotate_left 1
  · intro w hSw
    have q0 := Kept.cell hSw HY0.out (fun f => f)
    have q1 := Kept.cell hSw HY1.out (fun f => f)
    have q2 := Kept.cell hSw HY2.out (fun f => f)
    go_simp
    try with_reducible rfl
  try simp only [Act.put, List.getElem_toArray, List.getElem_cons_zero, List.getElem_cons_succ, List.setIfInBounds_toArray, List.set_cons_zero, List.set_cons_succ]
  refine wpAnyH_take (i := 3) (v := ?_) rfl (by kernel_rfl) (by kernel_rfl) (by kernel_rfl) (fun _ _ _ h => h) (Or.inl ⟨by rfl, ?_⟩) (by assumption) ?_
  rotate_left 1
  · intro w hSw
    have q0 := Kept.cell hSw HA0.out (fun f => f)
    have q1 := Kept.cell hSw HA1.out (fun f => f)
    have q2 := Kept.cell hSw HA2.out (fun f => f)
    go_simp
    try with_reducible rfl
  try simp only [Act.put, List.getElem_toArray, List.getElem_cons_zero, List.getElem_cons_succ, List.setIfInBounds_toArray, List.set_cons_zero, List.set_cons_succ]
  refine wpAnyH_take (i := 4) (v := ?_) rfl (by kernel_rfl) (by kernel_rfl) (by kernel_rfl) (fun _ _ _ h => h) (Or.inl ⟨by rfl, ?_⟩) (by assumption) ?_
  rotate_left 1
  · intro w hSw
    have q0 := Kept.cell hSw HB0.out (fun f => f)
    have q1 := Kept.cell hSw HB1.out (fun f => f)
    have q2 := Kept.cell hSw HB2.out (fun f => f)
    go_simp
    try with_reducible rfl
  try simp only [Act.put, List.getElem_toArray, List.getElem_cons_zero, List.getElem_cons_succ, List.setIfInBounds_toArray, List.set_cons_zero, List.set_cons_succ]
  refine wpAnyH_ready (rs := [2]) (by kernel_rfl) (by simp) ?_
  refine AllReadyH.cons rfl (fun K hK => ?_) AllReadyH.nil
  go_simp
  refine (HCxy.out _ hHeld).mono ?_
  rintro e wn ⟨rfl, hkn⟩
  refine hK.out _ _ (Kept.trans hHeld hkn) (fun hHeld => ?_)
  clear hK K hkn
  try simp only [Act.put, List.getElem_toArray, List.getElem_cons_zero, List.getElem_cons_succ, List.setIfInBounds_toArray, List.set_cons_zero, List.set_cons_succ]
  refine wpAnyH_ready (rs := [5]) (by kernel_rfl) (by simp) ?_
  refine AllReadyH.cons rfl (fun K hK => ?_) AllReadyH.nil
  go_simp
  refine (HCab.out _ hHeld).mono ?_
  rintro e wn ⟨rfl, hkn⟩
  refine hK.out _ _ (Kept.trans hHeld hkn) (fun hHeld => ?_)
  clear hK K hkn
  try simp only [Act.put, List.getElem_toArray, List.getElem_cons_zero, List.getElem_cons_succ, List.setIfInBounds_toArray, List.set_cons_zero, List.set_cons_succ]
  refine wpAnyH_take (i := 6) (v := (.bool true)) rfl (by kernel_rfl) (by kernel_rfl) (by kernel_rfl) (fun _ _ _ h => h) (Or.inl ⟨by rfl, ?_⟩) (by assumption) ?_
  · intro w hSw
    go_simp
    try (cases q <;> rfl)
  try simp only [Act.put, List.getElem_toArray, List.getElem_cons_zero, List.getElem_cons_succ, List.setIfInBounds_toArray, List.set_cons_zero, List.set_cons_succ]
  refine wpAnyH_take (i := 7) (v := ?_) rfl (by kernel_rfl) (by kernel_rfl) (by kernel_rfl) (fun _ _ _ h => h) (Or.inl ⟨by rfl, ?_⟩) (by assumption) ?_
  rotate_left 1
  · intro w hSw
    go_simp
    try with_reducible rfl
  try simp only [Act.put, List.getElem_toArray, List.getElem_cons_zero, List.getElem_cons_succ, List.setIfInBounds_toArray, List.set_cons_zero, List.set_cons_succ]
  refine wpAnyH_take (i := 8) (v := ?_) rfl (by kernel_rfl) (by kernel_rfl) (by kernel_rfl) (fun _ _ _ h => h) (Or.inl ⟨by rfl, ?_⟩) (by assumption) ?_
  rotate_left 1
  · intro w hSw
    have q0 := Kept.cell hSw HY0.out (fun f => f)
    have q1 := Kept.cell hSw HY1.out (fun f => f)
    have q2 := Kept.cell hSw HY2.out (fun f => f)
    go_simp
    try with_reducible rfl
  try simp only [Act.put, List.getElem_toArray, List.getElem_cons_zero, List.getElem_cons_succ, List.setIfInBounds_toArray, List.set_cons_zero, List.set_cons_succ]
  refine wpAnyH_take (i := 9) (v := ?_) rfl (by kernel_rfl) (by kernel_rfl) (by kernel_rfl) (fun _ _ _ h => h) (Or.inl ⟨by rfl, ?_⟩) (by assumption) ?_
  rotate_left 1
  · intro w hSw
    have q0 := Kept.cell hSw HX0.out (fun f => f)
    have q1 := Kept.cell hSw HX1.out (fun f => f)
    have q2 := Kept.cell hSw HX2.out (fun f => f)
    go_simp
    try with_reducible rfl
  try simp only [Act.put, List.getElem_toArray, List.getElem_cons_zero, List.getElem_cons_succ, List.setIfInBounds_toArray, List.set_cons_zero, List.set_cons_succ]
  refine wpAnyH_take (i := 11) (v := ?_) rfl (by kernel_rfl) (by kernel_rfl) (by kernel_rfl) (fun _ _ _ h => h) (Or.inl ⟨by rfl, ?_⟩) (by assumption) ?_
  rotate_left 1
  · intro w hSw
    have q0 := Kept.cell hSw HA0.out (fun f => f)
    have q1 := Kept.cell hSw HA1.out (fun f => f)
    have q2 := Kept.cell hSw HA2.out (fun f => f)
    go_simp
    try with_reducible rfl
  try simp only [Act.put, List.getElem_toArray, List.getElem_cons_zero, List.getElem_cons_succ, List.setIfInBounds_toArray, List.set_cons_zero, List.set_cons_succ]
  refine wpAnyH_take (i := 12) (v := ?_) rfl (by kernel_rfl) (by kernel_rfl) (by kernel_rfl) (fun _ _ _ h => h) (Or.inl ⟨by rfl, ?_⟩) (by assumption) ?_
  rotate_left 1
  · intro w hSw
    have q0 := Kept.cell hSw HB0.out (fun f => f)
    have q1 := Kept.cell hSw HB1.out (fun f => f)
    have q2 := Kept.cell hSw HB2.out (fun f => f)
    go_simp
    try with_reducible rfl
  try simp only [Act.put, List.getElem_toArray, List.getElem_cons_zero, List.getElem_cons_succ, List.setIfInBounds_toArray, List.set_cons_zero, List.set_cons_succ]
  refine wpAnyH_ready (rs := [10]) (by kernel_rfl) (by simp) ?_
  refine AllReadyH.cons rfl (fun K hK => ?_) AllReadyH.nil
  go_simp
  refine (HCyx.out _ hHeld).mono ?_
  rintro e wn ⟨rfl, hkn⟩
  refine hK.out _ _ (Kept.trans hHeld hkn) (fun hHeld => ?_)
  clear hK K hkn
  try simp only [Act.put, List.getElem_toArray, List.getElem_cons_zero, List.getElem_cons_succ, List.setIfInBounds_toArray, List.set_cons_zero, List.set_cons_succ]
  refine wpAnyH_ready (rs := [13]) (by kernel_rfl) (by simp) ?_
  refine AllReadyH.cons rfl (fun K hK => ?_) AllReadyH.nil
  go_simp
  refine (HCab.out _ hHeld).mono ?_
  rintro e wn ⟨rfl, hkn⟩
  refine hK.out _ _ (Kept.trans hHeld hkn) (fun hHeld => ?_)
  clear hK K hkn
  try simp only [Act.put, List.getElem_toArray, List.getElem_cons_zero, List.getElem_cons_succ, List.setIfInBounds_toArray, List.set_cons_zero, List.set_cons_succ]
  refine wpAnyH_take (i := 14) (v := (.bool true)) rfl (by kernel_rfl) (by kernel_rfl) (by kernel_rfl) (fun _ _ _ h => h) (Or.inl ⟨by rfl, ?_⟩) (by assumption) ?_
  · intro w hSw
    go_simp
    try (cases q <;> rfl)
  try simp only [Act.put, List.getElem_toArray, List.getElem_cons_zero, List.getElem_cons_succ, List.setIfInBounds_toArray, List.set_cons_zero, List.set_cons_succ]
  refine wpAnyH_take (i := 15) (v := ?_) rfl (by kernel_rfl) (by kernel_rfl) (by kernel_rfl) (fun _ _ _ h => h) (Or.inl ⟨by rfl, ?_⟩) (by assumption) ?_
  rotate_left 1
  · intro w hSw
    go_simp
    try with_reducible rfl
  try simp only [Act.put, List.getElem_toArray, List.getElem_cons_zero, List.getElem_cons_succ, List.setIfInBounds_toArray, List.set_cons_zero, List.set_cons_succ]
  refine wpAnyH_take (i := 16) (v := ?_) rfl (by kernel_rfl) (by kernel_rfl) (by kernel_rfl) (fun _ _ _ h => h) (Or.inl ⟨by rfl, ?_⟩) (by assumption) ?_
  rotate_left 1
  · intro w hSw
    go_simp
    try with_reducible rfl
  try simp only [Act.put, List.getElem_toArray, List.getElem_cons_zero, List.getElem_cons_succ, List.setIfInBounds_toArray, List.set_cons_zero, List.set_cons_succ]
  refine wpAnyH_take (i := 17) (v := ?_) rfl (by kernel_rfl) (by kernel_rfl) (by kernel_rfl) (fun _ _ _ h => h) (Or.inl ⟨by rfl, ?_⟩) (by assumption) ?_
  rotate_left 1
  · intro w hSw
    have q0 := Kept.cell hSw HX0.out (fun f => f)
    have q1 := Kept.cell hSw HX1.out (fun f => f)
    have q2 := Kept.cell hSw HX2.out (fun f => f)
    go_simp
    try with_reducible rfl
  try simp only [Act.put, List.getElem_toArray, List.getElem_cons_zero, List.getElem_cons_succ, List.setIfInBounds_toArray, List.set_cons_zero, List.set_cons_succ]
  refine wpAnyH_take (i := 18) (v := ?_) rfl (by kernel_rfl) (by kernel_rfl) (by kernel_rfl) (fun _ _ _ h => h) (Or.inl ⟨by rfl, ?_⟩) (by assumption) ?_
  rotate_left 1
  · intro w hSw
    have q0 := Kept.cell hSw HT0.out (fun f => f)
    have q1 := Kept.cell hSw HT1.out (fun f => f)
    have q2 := Kept.cell hSw HT2.out (fun f => f)
    go_simp
    try with_reducible rfl
  try simp only [Act.put, List.getElem_toArray, List.getElem_cons_zero, List.getElem_cons_succ, List.setIfInBounds_toArray, List.set_cons_zero, List.set_cons_succ]
  refine wpAnyH_ready (rs := [19]) (by kernel_rfl) (by simp) ?_
  refine AllReadyH.cons rfl (fun K hK => ?_) AllReadyH.nil
  go_simp
  refine (HCxt.out _ hHeld).mono ?_
  rintro e wn ⟨rfl, hkn⟩
  refine hK.out _ _ (Kept.trans hHeld hkn) (fun hHeld => ?_)
  clear hK K hkn
  try simp only [Act.put, List.getElem_toArray, List.getElem_cons_zero, List.getElem_cons_succ, List.setIfInBounds_toArray, List.set_cons_zero, List.set_cons_succ]
  refine wpAnyH_take (i := 20) (v := ?_) rfl (by kernel_rfl) (by kernel_rfl) (by kernel_rfl) (fun _ _ _ h => h) (Or.inl ⟨by rfl, ?_⟩) (by assumption) ?_
  rotate_left 1
  · intro w hSw
    go_simp
    try with_reducible rfl
  try simp only [Act.put, List.getElem_toArray, List.getElem_cons_zero, List.getElem_cons_succ, List.setIfInBounds_toArray, List.set_cons_zero, List.set_cons_succ]
  refine wpAnyH_take (i := 21) (v := ?_) rfl (by kernel_rfl) (by kernel_rfl) (by kernel_rfl) (fun _ _ _ h => h) (Or.inl ⟨by rfl, ?_⟩) (by assumption) ?_
  rotate_left 1
  · intro w hSw
    go_simp
    try with_reducible rfl
  try simp only [Act.put, List.getElem_toArray, List.getElem_cons_zero, List.getElem_cons_succ, List.setIfInBounds_toArray, List.set_cons_zero, List.set_cons_succ]
  refine wpAnyH_take (i := 22) (v := ?_) rfl (by kernel_rfl) (by kernel_rfl) (by kernel_rfl) (fun _ _ _ h => h) (Or.inl ⟨by rfl, ?_⟩) (by assumption) ?_
  rotate_left 1
  · intro w hSw
    have q0 := Kept.cell hSw HT0.out (fun f => f)
    have q1 := Kept.cell hSw HT1.out (fun f => f)
    have q2 := Kept.cell hSw HT2.out (fun f => f)
    go_simp
    try with_reducible rfl
  try simp only [Act.put, List.getElem_toArray, List.getElem_cons_zero, List.getElem_cons_succ, List.setIfInBounds_toArray, List.set_cons_zero, List.set_cons_succ]
  refine wpAnyH_take (i := 23) (v := ?_) rfl (by kernel_rfl) (by kernel_rfl) (by kernel_rfl) (fun _ _ _ h => h) (Or.inl ⟨by rfl, ?_⟩) (by assumption) ?_
  rotate_left 1
  · intro w hSw
    have q0 := Kept.cell hSw HA0.out (fun f => f)
    have q1 := Kept.cell hSw HA1.out (fun f => f)
    have q2 := Kept.cell hSw HA2.out (fun f => f)
    go_simp
    try with_reducible rfl
  try simp only [Act.put, List.getElem_toArray, List.getElem_cons_zero, List.getElem_cons_succ, List.setIfInBounds_toArray, List.set_cons_zero, List.set_cons_succ]
  refine wpAnyH_ready (rs := [24]) (by kernel_rfl) (by simp) ?_
  refine AllReadyH.cons rfl (fun K hK => ?_) AllReadyH.nil
  go_simp
  refine (HCta.out _ hHeld).mono ?_
  rintro e wn ⟨rfl, hkn⟩
  refine hK.out _ _ (Kept.trans hHeld hkn) (fun hHeld => ?_)
  clear hK K hkn
  try simp only [Act.put, List.getElem_toArray, List.getElem_cons_zero, List.getElem_cons_succ, List.setIfInBounds_toArray, List.set_cons_zero, List.set_cons_succ]
  refine wpAnyH_take (i := 25) (v := ?_) rfl (by kernel_rfl) (by kernel_rfl) (by kernel_rfl) (fun _ _ _ h => h) (Or.inl ⟨by rfl, ?_⟩) (by assumption) ?_
  rotate_left 1
  · intro w hSw
    go_simp
    try with_reducible rfl
  try simp only [Act.put, List.getElem_toArray, List.getElem_cons_zero, List.getElem_cons_succ, List.setIfInBounds_toArray, List.set_cons_zero, List.set_cons_succ]
  refine wpAnyH_take (i := 26) (v := ?_) rfl (by kernel_rfl) (by kernel_rfl) (by kernel_rfl) (fun _ _ _ h => h) (Or.inl ⟨by rfl, ?_⟩) (by assumption) ?_
  rotate_left 1
  · intro w hSw
    go_simp
    try with_reducible rfl
  try simp only [Act.put, List.getElem_toArray, List.getElem_cons_zero, List.getElem_cons_succ, List.setIfInBounds_toArray, List.set_cons_zero, List.set_cons_succ]
  refine wpAnyH_take (i := 27) (v := ?_) rfl (by kernel_rfl) (by kernel_rfl) (by kernel_rfl) (fun _ _ _ h => h) (Or.inl ⟨by rfl, ?_⟩) (by assumption) ?_
  rotate_left 1
  · intro w hSw
    have q0 := Kept.cell hSw HX0.out (fun f => f)
    have q1 := Kept.cell hSw HX1.out (fun f => f)
    have q2 := Kept.cell hSw HX2.out (fun f => f)
    go_simp
    try with_reducible rfl
  try simp only [Act.put, List.getElem_toArray, List.getElem_cons_zero, List.getElem_cons_succ, List.setIfInBounds_toArray, List.set_cons_zero, List.set_cons_succ]
  refine wpAnyH_take (i := 28) (v := ?_) rfl (by kernel_rfl) (by kernel_rfl) (by kernel_rfl) (fun _ _ _ h => h) (Or.inl ⟨by rfl, ?_⟩) (by assumption) ?_
  rotate_left 1
  · intro w hSw
    have q0 := Kept.cell hSw HA0.out (fun f => f)
    have q1 := Kept.cell hSw HA1.out (fun f => f)
    have q2 := Kept.cell hSw HA2.out (fun f => f)
    go_simp
    try with_reducible rfl
  try simp only [Act.put, List.getElem_toArray, List.getElem_cons_zero, List.getElem_cons_succ, List.setIfInBounds_toArray, List.set_cons_zero, List.set_cons_succ]
  refine wpAnyH_ready (rs := [29]) (by kernel_rfl) (by simp) ?_
  refine AllReadyH.cons rfl (fun K hK => ?_) AllReadyH.nil
  go_simp
  refine (HKxa.out _ hHeld).mono ?_
  rintro e wn ⟨rfl, hkn⟩
  refine hK.out _ _ (Kept.trans hHeld hkn) (fun hHeld => ?_)
  clear hK K hkn
  try simp only [Act.put, List.getElem_toArray, List.getElem_cons_zero, List.getElem_cons_succ, List.setIfInBounds_toArray, List.set_cons_zero, List.set_cons_succ]
  refine wpAnyH_take (i := 30) (v := ?_) rfl (by kernel_rfl) (by kernel_rfl) (by kernel_rfl) (fun _ _ _ h => h) (Or.inl ⟨by rfl, ?_⟩) (by assumption) ?_
  rotate_left 1
  · intro w hSw
    go_simp
    try with_reducible rfl
  try simp only [Act.put, List.getElem_toArray, List.getElem_cons_zero, List.getElem_cons_succ, List.setIfInBounds_toArray, List.set_cons_zero, List.set_cons_succ]
  refine wpAnyH_take (i := 31) (v := ?_) rfl (by kernel_rfl) (by kernel_rfl) (by kernel_rfl) (fun _ _ _ h => h) (Or.inl ⟨by rfl, ?_⟩) (by assumption) ?_
  rotate_left 1
  · intro w hSw
    go_simp
    try with_reducible rfl
  try simp only [Act.put, List.getElem_toArray, List.getElem_cons_zero, List.getElem_cons_succ, List.setIfInBounds_toArray, List.set_cons_zero, List.set_cons_succ]
  refine wpAnyH_take (i := 32) (v := ?_) rfl (by kernel_rfl) (by kernel_rfl) (by kernel_rfl) (fun _ _ _ h => h) (Or.inl ⟨by rfl, ?_⟩) (by assumption) ?_
  rotate_left 1
  · intro w hSw
    have q0 := Kept.cell hSw HY0.out (fun f => f)
    have q1 := Kept.cell hSw HY1.out (fun f => f)
    have q2 := Kept.cell hSw HY2.out (fun f => f)
    go_simp
    try with_reducible rfl
  try simp only [Act.put, List.getElem_toArray, List.getElem_cons_zero, List.getElem_cons_succ, List.setIfInBounds_toArray, List.set_cons_zero, List.set_cons_succ]
  refine wpAnyH_take (i := 33) (v := ?_) rfl (by kernel_rfl) (by kernel_rfl) (by kernel_rfl) (fun _ _ _ h => h) (Or.inl ⟨by rfl, ?_⟩) (by assumption) ?_
  rotate_left 1
  · intro w hSw
    have q0 := Kept.cell hSw HB0.out (fun f => f)
    have q1 := Kept.cell hSw HB1.out (fun f => f)
    have q2 := Kept.cell hSw HB2.out (fun f => f)
    go_simp
    try with_reducible rfl
  try simp only [Act.put, List.getElem_toArray, List.getElem_cons_zero, List.getElem_cons_succ, List.setIfInBounds_toArray, List.set_cons_zero, List.set_cons_succ]
  refine wpAnyH_ready (rs := [34]) (by kernel_rfl) (by simp) ?_
  refine AllReadyH.cons rfl (fun K hK => ?_) AllReadyH.nil
  go_simp
  refine (HKyb.out _ hHeld).mono ?_
  rintro e wn ⟨rfl, hkn⟩
  refine hK.out _ _ (Kept.trans hHeld hkn) (fun hHeld => ?_)
  clear hK K hkn
  try simp only [Act.put, List.getElem_toArray, List.getElem_cons_zero, List.getElem_cons_succ, List.setIfInBounds_toArray, List.set_cons_zero, List.set_cons_succ]
  refine wpAnyH_take (i := 35) (v := ?_) rfl (by kernel_rfl) (by kernel_rfl) (by kernel_rfl) (fun _ _ _ h => h) (Or.inl ⟨by rfl, ?_⟩) (by assumption) ?_
  rotate_left 1
  · intro w hSw
    go_simp
    try with_reducible rfl
  try simp only [Act.put, List.getElem_toArray, List.getElem_cons_zero, List.getElem_cons_succ, List.setIfInBounds_toArray, List.set_cons_zero, List.set_cons_succ]
  refine wpAnyH_take (i := 36) (v := ?_) rfl (by kernel_rfl) (by kernel_rfl) (by kernel_rfl) (fun _ _ _ h => h) (Or.inl ⟨by rfl, ?_⟩) (by assumption) ?_
  rotate_left 1
  · intro w hSw
    go_simp
    try with_reducible rfl
  try simp only [Act.put, List.getElem_toArray, List.getElem_cons_zero, List.getElem_cons_succ, List.setIfInBounds_toArray, List.set_cons_zero, List.set_cons_succ]
  refine wpAnyH_done (by kernel_rfl) ?_ _
  go_wp2
  go_ret
  exact ⟨rfl, HK4.out.trans hHeld⟩
end Go.Proofs.Ytnjhnlohjhdcpaa

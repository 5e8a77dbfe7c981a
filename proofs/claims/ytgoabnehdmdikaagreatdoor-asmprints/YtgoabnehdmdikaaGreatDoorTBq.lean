/-
  TBq: Bq.
-/
import Derived.Test.YtgoabnehdmdikaaGreatDoorTBp
namespace Go.Proofs.YtgoabnehdmdikaaGreatDoor
open Go.RowKit Go.Deep
set_option linter.unusedVariables false
set_option linter.unusedSimpArgs false
set_option maxRecDepth 100000

theorem Lent2.isB {w : World} {g c : Nat} {xs : List Int} {j : Nat} (h : Lent2 w g xs j) : IsB w (.slice (some ⟨g, 0, none⟩) xs.length c) xs := by
  obtain ⟨cur, h0, h1, h2, _⟩ := h
  refine .inr ⟨g, 0, c, rfl, fun i hi => ?_⟩
  rw [cell_block _ _ _ _ _ _ h0, Nat.zero_add]
  exact h2 i hi
theorem Lent2.lt {w : World} {g : Nat} {xs : List Int} {j : Nat} (h : Lent2 w g xs j) : g < w.heap.size := by
  obtain ⟨cur, h0, _⟩ := h
  exact (Array.getElem?_eq_some_iff.1 h0).1
theorem LentI.lt {w : World} {g : Nat} {ys : List IN} {j : Nat} (h : LentI w g ys j) : g < w.heap.size := by
  have h1 := (h.there 0 (by omega)).1
  cases hc : w.cell? ⟨g, 0 + 0, none⟩ with
  | none => rw [hc] at h1; cases h1
  | some v => exact World.block_lt_of_cell? w _ hc
theorem LentP.pg {w : World} {gd gl : Nat} {cgs : List Nat} {p : PG} (h : LentP w gd gl cgs p (p.fns.length + 7)) : PgIs w w.heap.size (lentV p gd gl) p := by
  refine ⟨_, _, rfl, h.dat.isB, fun q hq => ?_, .inr ⟨gl, 0, _, rfl, h.fns.lt, fun i f hf => ?_⟩⟩
  · simp only [Value.ownBlock, Option.some.injEq] at hq
    subst hq
    exact h.dat.lt
  · have hil : i < p.fns.length := (List.getElem?_eq_some_iff.1 hf).1
    have hlen := h.len
    have hcg : cgs[i]? = some (cgs[i]'(by omega)) := List.getElem?_eq_getElem _
    have hc := h.code i f _ hf hcg
    refine ⟨_, by rw [Nat.zero_add]; exact h.fns.ents i f _ (by omega) hf hcg, hc.row, fun q hq _ => ?_⟩
    simp only [Value.ownBlock, Option.some.injEq] at hq
    subst hq
    exact hc.lt
/-- While it is looked whether a program is as it was lent. -/
structure HdK (w wr : World) (gx gd gl : Nat) (BX BY : Array Value) (p : PG) (cgs : List Nat) (k : Nat) : Prop where
  bx : wr.heap[gx]? = some (.cells BX 26 (0, 0))
  by_ : wr.heap[gx + 1]? = some (.cells BY 26 (0, 0))
  th : wr.there gl 0 ((p.fns.length + 7) * 4)
  ents : ∀ (i : Nat) (f : FN) (cg : Nat), k ≤ i → p.fns[i]? = some f → cgs[i]? = some cg → wr.rangeAt gl (i * 4) (gcells f cg) ∧ LentI wr cg f.code 67
  marks : ∀ i, p.fns.length ≤ i → k ≤ i → i < p.fns.length + 7 → wr.rangeAt gl (i * 4) (mkG i)
  kept : Kept (fun q => q = gd ∨ gl ≤ q) w wr
set_option maxHeartbeats 32000000 in
theorem held_p (gd gl : Nat) (cgs : List Nat) (v : Value) (p : PG) (w : World) (B : Nat) (hl : LentP w gd gl cgs p (p.fns.length + 7)) (h : PgIs w B v p) (hB : B ≤ gd) (ho : p.Ok) :
    Calls Tryz.prog 16 #[lentV p gd gl, v] w fun e w' => e = .returned (.bool true) ∧ Kept (fun q => q = gd ∨ gl ≤ q) w w' := by
  obtain ⟨dv, fv, rfl, hd, hdl, hf⟩ := h
  obtain ⟨dao, dc, rfl⟩ := hd.shape
  obtain ⟨fao, fc, rfl⟩ := hf.shape
  have HLV : Hid (lentV p gd gl = .agg #[.int .i64 p.mem, .slice (some ⟨gd, 0, none⟩) p.data.length (p.data.length + 67), .slice (some ⟨gl, 0, none⟩) p.fns.length (p.fns.length + 7)]) := rfl
  rw [HLV.out]
  have HD := hid_of hd
  have HF := hid_of hf
  have HO := hid_of ho
  have HL := hid_of hl
  have HBB := hid_of hB
  have hbd := ho.data.2
  have hlf := ho.len
  have hdgl := hl.dl
  have hglw := hl.fns.lt
  have HH := fun (W : World) (hW : Kept (fun _ => False) w W) => held2_any gd (.slice dao p.data.length dc) p.data W (hl.dat.kept hW (fun f => f)) (hd.kept hW (fun _ _ f => f)) (by omega)
  clear hd hdl hf ho HLV hl hB
  obtain ⟨nd, hnd⟩ : ∃ n, n = p.data.length := ⟨_, rfl⟩
  obtain ⟨nf, hnf⟩ : ∃ n, n = p.fns.length := ⟨_, rfl⟩
  obtain ⟨mem, hmem⟩ : ∃ m, m = p.mem := ⟨_, rfl⟩
  rw [← hnd] at hbd HD HH
  rw [← hnf] at hlf HF
  rw [← hmem, ← hnd, ← hnf]
  have HNF := hid_of hnf
  have HND := hid_of hnd
  have HLF := hid_of hlf
  have HBD := hid_of hbd
  have HGG := hid_of (show gd < gl ∧ gl < w.heap.size from ⟨hdgl, hglw⟩)
  clear hnf hnd hmem hlf hbd hdgl hglw
  have hk1 : Kept (fun _ => False) w ((w.alloc (.cells #[.int .i64 mem, .slice (some ⟨gd, 0, none⟩) nd (nd + 67), .slice (some ⟨gl, 0, none⟩) nf (nf + 7)] 26)).alloc (.cells #[.int .i64 mem, .slice dao nd dc, .slice fao nf fc] 26)) := ((Kept.refl _ _).alloc _).alloc _
  have hb1 : ((w.alloc (.cells #[.int .i64 mem, .slice (some ⟨gd, 0, none⟩) nd (nd + 67), .slice (some ⟨gl, 0, none⟩) nf (nf + 7)] 26)).alloc (.cells #[.int .i64 mem, .slice dao nd dc, .slice fao nf fc] 26)).heap[w.heap.size]? = some (.cells #[.int .i64 mem, .slice (some ⟨gd, 0, none⟩) nd (nd + 67), .slice (some ⟨gl, 0, none⟩) nf (nf + 7)] 26 (0, 0)) := by
    rw [heap_alloc_old _ _ (by simp)]
    exact heap_alloc_new w _
  have hz1 : ((w.alloc (.cells #[.int .i64 mem, .slice (some ⟨gd, 0, none⟩) nd (nd + 67), .slice (some ⟨gl, 0, none⟩) nf (nf + 7)] 26)).alloc (.cells #[.int .i64 mem, .slice dao nd dc, .slice fao nf fc] 26)).heap[w.heap.size + 1]? = some (.cells #[.int .i64 mem, .slice dao nd dc, .slice fao nf fc] 26 (0, 0)) := by
    have := heap_alloc_new (w.alloc (.cells #[.int .i64 mem, .slice (some ⟨gd, 0, none⟩) nd (nd + 67), .slice (some ⟨gl, 0, none⟩) nf (nf + 7)] 26)) (.cells #[.int .i64 mem, .slice dao nd dc, .slice fao nf fc] 26)
    simpa using this
  go_enter Tryz.func16, Tryz.ntmps16
  go_upto_region 1 with fail
  generalize (w.alloc (.cells #[.int .i64 mem, .slice (some ⟨gd, 0, none⟩) nd (nd + 67), .slice (some ⟨gl, 0, none⟩) nf (nf + 7)] 26)).alloc (.cells #[.int .i64 mem, .slice dao nd dc, .slice fao nf fc] 26) = w1 at *
  obtain ⟨gx, hgx⟩ : ∃ g, g = w.heap.size := ⟨_, rfl⟩
  rw [← hgx] at hb1 hz1 HGG ⊢
  have HGX := hid_of hgx
  have HX1 := hid_of hb1
  have HZ1 := hid_of hz1
  have HK1 := hid_of hk1
  have HHW := hid_of (HH w1 hk1)
  clear hgx hb1 hz1 hk1 HH
  obtain ⟨x0, x1, x2, _⟩ := look3 HX1.out
  obtain ⟨z0, z1, z2, _⟩ := look3 HZ1.out
  go_wp2_with fail
  refine HHW.out.mono ?_
  rintro e w2 ⟨rfl, hk2⟩
  have hgg := HGG.out
  have HDK : Hid (HdK w w2 gx gd gl #[.int .i64 mem, .slice (some ⟨gd, 0, none⟩) nd (nd + 67), .slice (some ⟨gl, 0, none⟩) nf (nf + 7)] #[.int .i64 mem, .slice dao nd dc, .slice fao nf fc] p cgs 0) :=
    ⟨box_kept hk2 HX1.out (by omega), box_kept hk2 HZ1.out (by omega), there_kept (there_kept HL.out.fns.there HK1.out (fun f => f)) hk2 (by omega), fun i f cg _ hf hc => by
      have hil : i < p.fns.length := (List.getElem?_eq_some_iff.1 hf).1
      have hlo := HL.out.lo cg (List.mem_of_getElem? hc)
      exact ⟨fun j u hj => hk2.cell (HK1.out.cell (HL.out.fns.ents i f cg (by omega) hf hc j u hj) (fun f => f)) (by show ¬ gl = gd; omega), ((HL.out.code i f cg hf hc).kept HK1.out (fun f => f)).kept hk2 (by omega)⟩, fun i h0 _ h1 j u hj => hk2.cell (HK1.out.cell (HL.out.fns.marks i h0 h1 j u hj) (fun f => f)) (by show ¬ gl = gd; omega), (HK1.out.mono (fun _ _ f => f.elim)).trans (hk2.mono (fun _ _ e => .inl e))⟩
  clear hk2 HHW x0 x1 x2 z0 z1 z2 HX1 HZ1
  obtain ⟨x0, x1, x2, _⟩ := look3 HDK.out.bx
  obtain ⟨z0, z1, z2, _⟩ := look3 HDK.out.by_
  have hnfB : (nf : Int) ≤ 10000000000000 := by have := HLF.out; omega
  go_wp2_with fail
  clear x0 x1 x2 z0 z1 z2
  go_loopw [6] (fun iv wr => ∃ (k : Nat), iv = .int .i64 (k : Int) ∧ Hid (k ≤ nf + 7) ∧ Hid (HdK w wr gx gd gl #[.int .i64 mem, .slice (some ⟨gd, 0, none⟩) nd (nd + 67), .slice (some ⟨gl, 0, none⟩) nf (nf + 7)] #[.int .i64 mem, .slice dao nd dc, .slice fao nf fc] p cgs k)) (fun iv _ => nf + 7 - (intOf iv).toNat)
  case atStart => exact ⟨0, rfl, Nat.zero_le _, HDK⟩
  case round =>
    clear HDK
    obtain ⟨k, rfl, HI, HDK⟩ := hrel
    by_cases hlt : k < nf + 7
    · have hltI : (k : Int) < (nf : Int) + 7 := by omega
      have hkB : (k : Int) ≤ 10000000000010 := by omega
      obtain ⟨z0, z1, z2, _⟩ := look3 HDK.out.by_
      by_cases hlk : k < nf
      · have hlkI : ¬ (nf : Int) ≤ (k : Int) := by omega
        have hlkI2 : (k : Int) < (nf : Int) := by omega
        have hlk' : k < p.fns.length := by rw [← HNF.out]; exact hlk
        obtain ⟨g, o, f, e1, hgB, hfi, hfa⟩ := HF.out.at (i := k) hlk'
        subst e1
        obtain ⟨cao, cc, x0, x1, x2, x3, hri, hcl⟩ := fn_read hfa
        have hlen := HL.out.len
        obtain ⟨cg, hcg⟩ : ∃ cg, cgs[k]? = some cg := ⟨_, List.getElem?_eq_getElem (by omega)⟩
        have hlo := HL.out.lo cg (List.mem_of_getElem? hcg)
        obtain ⟨hent, hli⟩ := HDK.out.ents k f cg (Nat.le_refl _) hfi hcg
        have a0 : wr.cell? ⟨gl, k * 4, none⟩ = some (.int .i64 f.a) := hent 0 _ rfl
        have a1 : wr.cell? ⟨gl, k * 4 + 1, none⟩ = some (.int .i64 f.l) := hent 1 _ rfl
        have a2 : wr.cell? ⟨gl, k * 4 + 2, none⟩ = some (.int .i64 f.r) := hent 2 _ rfl
        have a3 : wr.cell? ⟨gl, k * 4 + 3, none⟩ = some (.slice (some ⟨cg, 0, none⟩) f.code.length (f.code.length + 67)) := hent 3 _ rfl
        have hB := HBB.out
        have hgn : ¬ (g = gd ∨ gl ≤ g) := by omega
        have y0 := HDK.out.kept.cell x0 hgn
        have y1 := HDK.out.kept.cell x1 hgn
        have y2 := HDK.out.kept.cell x2 hgn
        have y3 := HDK.out.kept.cell x3 hgn
        have hri2 := hri.keptB HDK.out.kept (fun q hq h0 e => by have := hcl q hq h0; omega)
        have hcode := (HO.out.fns f (List.mem_of_getElem? hfi)).len
        have hka : Kept (fun _ => False) wr ((wr.alloc (.cells #[.int .i64 f.a, .int .i64 f.l, .int .i64 f.r, .slice (some ⟨cg, 0, none⟩) f.code.length (f.code.length + 67)] 78)).alloc (.cells #[.int .i64 f.a, .int .i64 f.l, .int .i64 f.r, .slice cao f.code.length cc] 78)) := ((Kept.refl _ _).alloc _).alloc _
        have hka1 : Kept (fun _ => False) wr (wr.alloc (.cells #[.int .i64 f.a, .int .i64 f.l, .int .i64 f.r, .slice (some ⟨cg, 0, none⟩) f.code.length (f.code.length + 67)] 78)) := (Kept.refl _ _).alloc _
        have HB1 := hid_of (show ((wr.alloc (.cells #[.int .i64 f.a, .int .i64 f.l, .int .i64 f.r, .slice (some ⟨cg, 0, none⟩) f.code.length (f.code.length + 67)] 78)).alloc (.cells #[.int .i64 f.a, .int .i64 f.l, .int .i64 f.r, .slice cao f.code.length cc] 78)).heap[wr.heap.size]? = some (.cells #[.int .i64 f.a, .int .i64 f.l, .int .i64 f.r, .slice (some ⟨cg, 0, none⟩) f.code.length (f.code.length + 67)] 78 (0, 0)) by
          rw [heap_alloc_old _ _ (by simp)]
          exact heap_alloc_new wr _)
        have HB2 := hid_of (show ((wr.alloc (.cells #[.int .i64 f.a, .int .i64 f.l, .int .i64 f.r, .slice (some ⟨cg, 0, none⟩) f.code.length (f.code.length + 67)] 78)).alloc (.cells #[.int .i64 f.a, .int .i64 f.l, .int .i64 f.r, .slice cao f.code.length cc] 78)).heap[wr.heap.size + 1]? = some (.cells #[.int .i64 f.a, .int .i64 f.l, .int .i64 f.r, .slice cao f.code.length cc] 78 (0, 0)) by
          have := heap_alloc_new (wr.alloc (.cells #[.int .i64 f.a, .int .i64 f.l, .int .i64 f.r, .slice (some ⟨cg, 0, none⟩) f.code.length (f.code.length + 67)] 78)) (.cells #[.int .i64 f.a, .int .i64 f.l, .int .i64 f.r, .slice cao f.code.length cc] 78)
          simpa using this)
        have HKA := hid_of hka
        have HHI := hid_of (heldI_any cg (.slice cao f.code.length cc) f.code _ (hli.kept hka (fun f => f)) (hri2.kept hka (fun _ _ f => f)) (by omega))
        have zz2 : (wr.alloc (.cells #[.int .i64 f.a, .int .i64 f.l, .int .i64 f.r, .slice (some ⟨cg, 0, none⟩) f.code.length (f.code.length + 67)] 78)).cell? ⟨gx + 1, 2, none⟩ = some (.slice (some ⟨g, o, none⟩) nf fc) := hka1.cell z2 (fun f => f)
        have yy0 := hka1.cell y0 (fun f => f)
        have yy1 := hka1.cell y1 (fun f => f)
        have yy2 := hka1.cell y2 (fun f => f)
        have yy3 := hka1.cell y3 (fun f => f)
        have HGL := hid_of (show gl < cg ∧ cg < wr.heap.size ∧ gx + 1 < wr.heap.size from ⟨hlo, hli.lt, (Array.getElem?_eq_some_iff.1 HDK.out.by_).1⟩)
        have HFI := hid_of hfi
        have HCG := hid_of hcg
        clear hfa hfi hcg hent hli hri hri2 hcl hka hka1 hB hgn hlen hlo
        go_upto_region 8 with fail
        clear a0 a1 a2 a3 y0 y1 y2 y3
        go_upto_region 12 with fail
        clear z0 z1 z2 zz2 yy0 yy1 yy2 yy3 x0 x1 x2 x3
        generalize ((wr.alloc (.cells #[.int .i64 f.a, .int .i64 f.l, .int .i64 f.r, .slice (some ⟨cg, 0, none⟩) f.code.length (f.code.length + 67)] 78)).alloc (.cells #[.int .i64 f.a, .int .i64 f.l, .int .i64 f.r, .slice cao f.code.length cc] 78)) = w4 at *
        obtain ⟨b0, b1, b2, b3, _⟩ := look4 HB1.out
        obtain ⟨d0, d1, d2, d3, _⟩ := look4 HB2.out
        go_wp2_with fail
        refine HHI.out.mono ?_
        rintro e w5 ⟨rfl, hk5⟩
        have hgo := HGL.out
        have hg2 := HGG.out
        have hgx1 := HGX.out
        have hcgx : cg < gx := by have := (HL.out.code k f cg HFI.out HCG.out).lt; omega
        have hth5 : w5.there gl (k * 4) (#[.int .i64 9, .int .i64 (-9), .int .i64 0, .slice none 0 0] : Array Value).size := there_sub (there_kept (there_kept HDK.out.th HKA.out (fun f => f)) hk5 (by omega)) (by show k * 4 + 4 ≤ _; omega)
        have hks := kept_cells gl (#[.int .i64 9, .int .i64 (-9), .int .i64 0, .slice none 0 0] : Array Value).toList (k * 4) w5
        have HDK9 : Hid (HdK w (w5.setCells gl (k * 4) (#[.int .i64 9, .int .i64 (-9), .int .i64 0, .slice none 0 0] : Array Value).toList) gx gd gl #[.int .i64 mem, .slice (some ⟨gd, 0, none⟩) nd (nd + 67), .slice (some ⟨gl, 0, none⟩) nf (nf + 7)] #[.int .i64 mem, .slice dao nd dc, .slice (some ⟨g, o, none⟩) nf fc] p cgs (k + 1)) := by
          have hlen := HL.out.len
          refine ⟨box_kept hks (box_kept hk5 (box_kept HKA.out HDK.out.bx (fun f => f)) (by omega)) (by omega), box_kept hks (box_kept hk5 (box_kept HKA.out HDK.out.by_ (fun f => f)) (by omega)) (by omega), World.there_setCells (there_kept (there_kept HDK.out.th HKA.out (fun f => f)) hk5 (by omega)) _ _ _, fun i F cg2 hi hF hc => ?_, fun i h0 h1 h2 => ?_, ((HDK.out.kept.trans (HKA.out.mono (fun _ _ f => f.elim))).trans (hk5.mono (fun q _ e => .inr (by omega)))).trans (hks.mono (fun q _ e => .inr (by omega)))⟩
          · obtain ⟨h1, h2⟩ := HDK.out.ents i F cg2 (by omega) hF hc
            have hne : cg2 ≠ cg := by
              have hcl : i < cgs.length := (List.getElem?_eq_some_iff.1 hc).1
              have hck : k < cgs.length := (List.getElem?_eq_some_iff.1 HCG.out).1
              have hp := (List.pairwise_iff_getElem.1 HL.out.up) k i hck hcl (by omega)
              have e1 := (List.getElem?_eq_some_iff.1 hc).2
              have e2 := (List.getElem?_eq_some_iff.1 HCG.out).2
              omega
            have hlo2 := HL.out.lo cg2 (List.mem_of_getElem? hc)
            refine ⟨World.rangeAt_setCells_apart (fun j u hj => hk5.cell (HKA.out.cell (h1 j u hj) (fun f => f)) (by show ¬ gl = cg; omega)) _ _ _ (.inr (.inr ?_)), ((h2.kept HKA.out (fun f => f)).kept hk5 (by omega)).kept hks (by omega)⟩
            show k * 4 + 4 ≤ i * 4
            omega
          · refine World.rangeAt_setCells_apart (fun j u hj => hk5.cell (HKA.out.cell (HDK.out.marks i h0 (by omega) h2 j u hj) (fun f => f)) (by show ¬ gl = cg; omega)) _ _ _ (.inr (.inr ?_))
            show k * 4 + 4 ≤ i * 4
            omega
        clear hks hk5 HHI HKA HDK HB1 HB2 b0 b1 b2 b3 d0 d1 d2 d3 hgo hg2 hgx1 hcgx
        go_wp2_with (refine wpList_store_mid rfl 78 _ _ rfl gl (k * 4) #[.int .i64 9, .int .i64 (-9), .int .i64 0, .slice none 0 0] rfl rfl hth5 size78 (four_oneA _ _ _ _ rfl rfl rfl rfl) ?_)
        go_roundw
        case rel => exact ⟨k + 1, by go_num, hlt, HDK9⟩
        case measure => simp [intOf]; omega
      · have hlkI : (nf : Int) ≤ (k : Int) := by omega
        have hmk := HDK.out.marks k (by have := HNF.out; omega) (Nat.le_refl _) (by have := HNF.out; omega)
        have a0 : wr.cell? ⟨gl, k * 4, none⟩ = some (.int .i64 (-70 - (k : Int))) := hmk 0 _ rfl
        have a1 : wr.cell? ⟨gl, k * 4 + 1, none⟩ = some (.int .i64 0) := hmk 1 _ rfl
        have a2 : wr.cell? ⟨gl, k * 4 + 2, none⟩ = some (.int .i64 0) := hmk 2 _ rfl
        have a3 : wr.cell? ⟨gl, k * 4 + 3, none⟩ = some (.slice none 0 0) := hmk 3 _ rfl
        have hka : Kept (fun _ => False) wr (wr.alloc (.cells #[.int .i64 (-70 - (k : Int)), .int .i64 0, .int .i64 0, .slice none 0 0] 78)) := (Kept.refl _ _).alloc _
        have HB1 := hid_of (heap_alloc_new wr (.cells #[.int .i64 (-70 - (k : Int)), .int .i64 0, .int .i64 0, .slice none 0 0] 78))
        have zz2 : (wr.alloc (.cells #[.int .i64 (-70 - (k : Int)), .int .i64 0, .int .i64 0, .slice none 0 0] 78)).cell? ⟨gx + 1, 2, none⟩ = some (.slice fao nf fc) := hka.cell z2 (fun f => f)
        have HDK9 : Hid (HdK w (wr.alloc (.cells #[.int .i64 (-70 - (k : Int)), .int .i64 0, .int .i64 0, .slice none 0 0] 78)) gx gd gl #[.int .i64 mem, .slice (some ⟨gd, 0, none⟩) nd (nd + 67), .slice (some ⟨gl, 0, none⟩) nf (nf + 7)] #[.int .i64 mem, .slice dao nd dc, .slice fao nf fc] p cgs (k + 1)) :=
          ⟨box_kept hka HDK.out.bx (fun f => f), box_kept hka HDK.out.by_ (fun f => f), there_kept HDK.out.th hka (fun f => f), fun i F cg2 hi hF hc => ⟨fun j u hj => hka.cell ((HDK.out.ents i F cg2 (by omega) hF hc).1 j u hj) (fun f => f), (HDK.out.ents i F cg2 (by omega) hF hc).2.kept hka (fun f => f)⟩, fun i h0 h1 h2 j u hj => hka.cell (HDK.out.marks i h0 (by omega) h2 j u hj) (fun f => f), HDK.out.kept.trans (hka.mono (fun _ _ f => f.elim))⟩
        clear hka hmk HDK
        go_upto_region 8 with fail
        clear a0 a1 a2 a3 z0 z1 z2
        generalize (wr.alloc (.cells #[.int .i64 (-70 - (k : Int)), .int .i64 0, .int .i64 0, .slice none 0 0] 78)) = w4 at *
        generalize wr.heap.size = gz at *
        obtain ⟨b0, b1, b2, b3, _⟩ := look4 HB1.out
        go_wp2
        go_roundw
        case rel => exact ⟨k + 1, by go_num, hlt, HDK9⟩
        case measure => simp [intOf]; omega
    · have hkn : k = nf + 7 := by have := HI.out; omega
      subst hkn
      have hnlt : ¬ (((nf + 7 : Nat)) : Int) < (nf : Int) + 7 := by omega
      have HKF := hid_of HDK.out.kept
      clear hlt HDK
      go_wp2
      go_ret
      exact ⟨rfl, HKF.out⟩
end Go.Proofs.YtgoabnehdmdikaaGreatDoor

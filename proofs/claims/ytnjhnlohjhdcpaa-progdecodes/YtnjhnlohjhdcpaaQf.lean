/-
  The reference's Encode of a program: the walk.
-/
import Derived.Test.YtnjhnlohjhdcpaaQde
import Derived.Test.YtnjhnlohjhdcpaaWdz
namespace Go.Proofs.Ytnjhnlohjhdcpaa
open Go.ChangeShapes Go.WideShapes Go.ChangeAt Go.RowKit Go.Deep
set_option linter.unusedVariables false
set_option linter.unusedSimpArgs false
set_option maxRecDepth 100000

theorem checkP_zero {p : PG} (h : checkP p = 0) : (0 ≤ p.mem ∧ p.mem ≤ 65536) ∧ p.data.length ≤ 65536 ∧ 1 ≤ p.fns.length ∧ p.fns.length ≤ 64 ∧ ∀ f ∈ p.fns, ((0 ≤ f.a ∧ f.a ≤ 16) ∧ (0 ≤ f.l ∧ f.l ≤ 64) ∧ (0 ≤ f.r ∧ f.r ≤ 1)) ∧ encE f.code = 0 := by
  unfold checkP at h
  rcases bad_cases p with ⟨_, hb⟩ | ⟨hb, hb2⟩
  · rw [if_pos hb] at h; cases h
  · rw [if_neg (by rw [hb2]; decide)] at h
    refine ⟨⟨by omega, by omega⟩, by omega, by omega, by omega, fun f hf => ?_⟩
    have he := firstF_zero _ h f hf
    rcases badF_cases f with ⟨_, h1⟩ | ⟨h1, h2⟩
    · rw [h1] at he; cases he
    · exact ⟨by omega, by rw [← h2]; exact he⟩

set_option maxHeartbeats 8000000 in
theorem rencode_any (v : Value) (p : PG) (w : World) (B : Nat) (h : PgIs w B v p) (hB : B ≤ w.heap.size) (ho : p.Ok) : Calls Try.prog 15 #[v] w (EncPR p w) := by
  have hpg := h
  obtain ⟨dv, fv, rfl, hd, hdl, hf⟩ := h
  obtain ⟨dao, dc, rfl⟩ := hd.shape
  obtain ⟨fao, fc, rfl⟩ := hf.shape
  obtain ⟨nd, hnd⟩ : ∃ n, n = p.data.length := ⟨_, rfl⟩
  obtain ⟨nf, hnf⟩ : ∃ n, n = p.fns.length := ⟨_, rfl⟩
  obtain ⟨mem, hmem⟩ : ∃ m, m = p.mem := ⟨_, rfl⟩
  rw [← hmem, ← hnd, ← hnf] at hpg
  rw [← hnf] at hf
  rw [← hnd] at hd hdl
  rw [← hmem, ← hnd, ← hnf]
  have hkA : Kept (fun _ => False) w (w.alloc (.cells #[.int .i64 mem, .slice dao nd dc, .slice fao nf fc] 25)) := (Kept.refl _ _).alloc _
  have hbA := heap_alloc_new w (.cells #[.int .i64 mem, .slice dao nd dc, .slice fao nf fc] 25)
  have c0 := cell_block _ w.heap.size 0 _ _ _ hbA
  have c1 := cell_block _ w.heap.size 1 _ _ _ hbA
  have c2 := cell_block _ w.heap.size 2 _ _ _ hbA
  have HCK := hid_of (rcheck_any _ p _ B (hpg.kept hkA (fun _ _ f => f)) (Nat.le_trans hB hkA.size) ho)
  have HD := hid_of hd
  have HDL := hid_of hdl
  have HF := hid_of hf
  have HO := hid_of ho
  have HNF := hid_of hnf
  have HND := hid_of hnd
  have HMEM := hid_of hmem
  have HB0 := hid_of hB
  have HKA := hid_of hkA
  have HBA := hid_of hbA
  have HSZ : Hid (w.heap.size < (w.alloc (.cells #[.int .i64 mem, .slice dao nd dc, .slice fao nf fc] 25)).heap.size) := by unfold Hid; simp
  clear hpg hd hdl hf ho hnf hnd hmem hB hkA hbA
  go_enter Try.func15, Try.ntmps15
  go_wp2_with fail
  generalize w.alloc (.cells #[.int .i64 mem, .slice dao nd dc, .slice fao nf fc] 25) = w0 at *
  refine HCK.out.mono ?_
  rintro e w1 ⟨rfl, hk1⟩
  have HK1 := hid_of hk1
  have HB1 : Hid (w1.heap[w.heap.size]? = some (.cells #[.int .i64 mem, .slice dao nd dc, .slice fao nf fc] 25 (0, 0))) := (hk1.block _ (Array.getElem?_eq_some_iff.1 HBA.out).1 (fun f => f)).trans HBA.out
  obtain ⟨gp, hgp⟩ : ∃ g, g = w.heap.size := ⟨_, rfl⟩
  rw [← hgp] at HB1 HSZ HBA
  rw [← hgp]
  have HGP := hid_of hgp
  clear hk1 HCK c0 c1 c2 hgp
  by_cases hck : checkP p = 0
  · obtain ⟨hm, hdl, hf1, hf2, hfs⟩ := checkP_zero hck
    rw [hck]
    have HPE : Hid (encPE p = if 1048576 < (bytesP p).length then 2 else 0) := by unfold Hid encPE; rw [if_pos hck]
    have HRH := hid_of (run_head p (.slice dao nd dc) hm hdl hf2)
    have HFS := hid_of hfs
    rw [← HMEM.out] at hm
    rw [← HND.out] at hdl
    rw [← HNF.out] at hf1 hf2
    have q0 : w1.cell? ⟨gp, 0, none⟩ = some (.int .i64 mem) := cell_block _ gp 0 _ _ _ HB1.out
    have q1 : w1.cell? ⟨gp, 1, none⟩ = some (.slice dao nd dc) := cell_block _ gp 1 _ _ _ HB1.out
    have q2 : w1.cell? ⟨gp, 2, none⟩ = some (.slice fao nf fc) := cell_block _ gp 2 _ _ _ HB1.out
    have HC0 := hid_of q0
    have HC1 := hid_of q1
    have HC2 := hid_of q2
    clear hck hfs q0 q1 q2
    go_upto_region 4 with fail
    refine wp_region_held_drew (S := fun w' => Kept (fun _ => False) w1 w') (by kernel_rfl) (Kept.refl _ _).drew (fun hHeld => ?_)
    refine wpAnyH_take (i := 1) (v := ?_) rfl (by kernel_rfl) (by kernel_rfl) (by kernel_rfl) (fun _ _ _ h => h) (Or.inl ⟨by rfl, ?_⟩) (by assumption) ?_
    rotate_left 1
    · intro w hSw
      go_simp
      try with_reducible rfl
    try simp only [Act.put, List.getElem_toArray, List.getElem_cons_zero, List.getElem_cons_succ, List.setIfInBounds_toArray, List.set_cons_zero, List.set_cons_succ]
    refine wpAnyH_take (i := 2) (v := ?_) rfl (by kernel_rfl) (by kernel_rfl) (by kernel_rfl) (fun _ _ _ h => h) (Or.inl ⟨by rfl, ?_⟩) (by assumption) ?_
    rotate_left 1
    · intro w hSw
      have qc := Kept.cell hSw HC0.out (fun f => f)
      go_simp
      try with_reducible rfl
    try simp only [Act.put, List.getElem_toArray, List.getElem_cons_zero, List.getElem_cons_succ, List.setIfInBounds_toArray, List.set_cons_zero, List.set_cons_succ]
    refine wpAnyH_take (i := 4) (v := ?_) rfl (by kernel_rfl) (by kernel_rfl) (by kernel_rfl) (fun _ _ _ h => h) (Or.inl ⟨by rfl, ?_⟩) (by assumption) ?_
    rotate_left 1
    · intro w hSw
      go_simp
      try with_reducible rfl
    try simp only [Act.put, List.getElem_toArray, List.getElem_cons_zero, List.getElem_cons_succ, List.setIfInBounds_toArray, List.set_cons_zero, List.set_cons_succ]
    refine wpAnyH_take (i := 5) (v := ?_) rfl (by kernel_rfl) (by kernel_rfl) (by kernel_rfl) (fun _ _ _ h => h) (Or.inl ⟨by rfl, ?_⟩) (by assumption) ?_
    rotate_left 1
    · intro w hSw
      have qc := Kept.cell hSw HC1.out (fun f => f)
      go_simp
      try with_reducible rfl
    try simp only [Act.put, List.getElem_toArray, List.getElem_cons_zero, List.getElem_cons_succ, List.setIfInBounds_toArray, List.set_cons_zero, List.set_cons_succ]
    refine wpAnyH_take (i := 6) (v := ?_) rfl (by kernel_rfl) (by kernel_rfl) (by kernel_rfl) (fun _ _ _ h => h) (Or.inl ⟨by rfl, ?_⟩) (by assumption) ?_
    rotate_left 1
    · intro w hSw
      go_simp
      try with_reducible rfl
    try simp only [Act.put, List.getElem_toArray, List.getElem_cons_zero, List.getElem_cons_succ, List.setIfInBounds_toArray, List.set_cons_zero, List.set_cons_succ]
    refine wpAnyH_take (i := 7) (v := ?_) rfl (by kernel_rfl) (by kernel_rfl) (by kernel_rfl) (fun _ _ _ h => h) (Or.inl ⟨by rfl, ?_⟩) (by assumption) ?_
    rotate_left 1
    · intro w hSw
      go_simp
      try with_reducible rfl
    try simp only [Act.put, List.getElem_toArray, List.getElem_cons_zero, List.getElem_cons_succ, List.setIfInBounds_toArray, List.set_cons_zero, List.set_cons_succ]
    refine wpAnyH_take (i := 8) (v := ?_) rfl (by kernel_rfl) (by kernel_rfl) (by kernel_rfl) (fun _ _ _ h => h) (Or.inl ⟨by rfl, ?_⟩) (by assumption) ?_
    rotate_left 1
    · intro w hSw
      have qc := Kept.cell hSw HC2.out (fun f => f)
      go_simp
      try with_reducible rfl
    try simp only [Act.put, List.getElem_toArray, List.getElem_cons_zero, List.getElem_cons_succ, List.setIfInBounds_toArray, List.set_cons_zero, List.set_cons_succ]
    refine wpAnyH_take (i := 9) (v := ?_) rfl (by kernel_rfl) (by kernel_rfl) (by kernel_rfl) (fun _ _ _ h => h) (Or.inl ⟨by rfl, ?_⟩) (by assumption) ?_
    rotate_left 1
    · intro w hSw
      go_simp
      try with_reducible rfl
    try simp only [Act.put, List.getElem_toArray, List.getElem_cons_zero, List.getElem_cons_succ, List.setIfInBounds_toArray, List.set_cons_zero, List.set_cons_succ]
    refine wpAnyH_ready (rs := [0]) (by kernel_rfl) (by simp) ?_
    refine AllReadyH.cons rfl (fun K hK => ?_) AllReadyH.nil
    go_simp
    refine (rnum_any (2) _).mono ?_
    rintro e wn ⟨rfl, hkn⟩
    refine hK.out _ _ (Kept.trans hHeld hkn) (fun hHeld => ?_)
    clear hK K hkn
    try simp only [Act.put, List.getElem_toArray, List.getElem_cons_zero, List.getElem_cons_succ, List.setIfInBounds_toArray, List.set_cons_zero, List.set_cons_succ]
    refine wpAnyH_ready (rs := [3]) (by kernel_rfl) (by simp) ?_
    refine AllReadyH.cons rfl (fun K hK => ?_) AllReadyH.nil
    go_simp
    refine (rnum_any (mem) _).mono ?_
    rintro e wn ⟨rfl, hkn⟩
    refine hK.out _ _ (Kept.trans hHeld hkn) (fun hHeld => ?_)
    clear hK K hkn
    try simp only [Act.put, List.getElem_toArray, List.getElem_cons_zero, List.getElem_cons_succ, List.setIfInBounds_toArray, List.set_cons_zero, List.set_cons_succ]
    refine wpAnyH_ready (rs := [10]) (by kernel_rfl) (by simp) ?_
    refine AllReadyH.cons rfl (fun K hK => ?_) AllReadyH.nil
    go_simp
    refine (rnum_any ((nf : Int)) _).mono ?_
    rintro e wn ⟨rfl, hkn⟩
    refine hK.out _ _ (Kept.trans hHeld hkn) (fun hHeld => ?_)
    clear hK K hkn
    try simp only [Act.put, List.getElem_toArray, List.getElem_cons_zero, List.getElem_cons_succ, List.setIfInBounds_toArray, List.set_cons_zero, List.set_cons_succ]
    refine wpAnyH_ready (rs := [11]) (by kernel_rfl) (by simp) ?_
    refine AllReadyH.cons rfl (fun K hK => ?_) AllReadyH.nil
    go_simp
    refine hK.out _ _ (Kept.alloc hHeld _) (fun hHeld2 => ?_)
    clear hK K
    try simp only [Act.put, List.getElem_toArray, List.getElem_cons_zero, List.getElem_cons_succ, List.setIfInBounds_toArray, List.set_cons_zero, List.set_cons_succ]
    refine wpAnyH_take (i := 12) (v := ?_) rfl (by kernel_rfl) (by kernel_rfl) (by kernel_rfl) (fun _ _ _ h => h) (Or.inl ⟨by rfl, ?_⟩) (by assumption) ?_
    rotate_left 1
    · intro w hSw
      go_simp
      try with_reducible rfl
    try simp only [Act.put, List.getElem_toArray, List.getElem_cons_zero, List.getElem_cons_succ, List.setIfInBounds_toArray, List.set_cons_zero, List.set_cons_succ]
    refine wpAnyH_done (by kernel_rfl) ?_ _
    have hE0 : EnK w0 (wn.alloc (.cells #[.int .i64 1, .int .i64 2, .slice none 0 0, .int .i64 1, .int .i64 mem, .slice none 0 0, .int .i64 4, .int .i64 0, .slice dao nd dc, .int .i64 1, .int .i64 (nf : Int), .slice none 0 0] 63)) (.slice (some ⟨wn.heap.size, 0, none⟩) 4 4) [itN 2, itN mem, itB (.slice dao nd dc) p.data, itN (nf : Int)] :=
      EnK.first w0 wn (HK1.out.trans hHeld) [itN 2, itN mem, itB (.slice dao nd dc) p.data, itN (nf : Int)] (by simp) (fun x hx => by
        simp only [List.mem_cons, List.mem_nil_iff, or_false] at hx
        rcases hx with rfl | rfl | rfl | rfl
        · exact okN wn 2 (by omega) (by omega)
        · exact okN wn mem (by omega) (by omega)
        · exact okB wn _ _ (HD.out.kept (HKA.out.trans (HK1.out.trans hHeld)) (fun _ _ f => f)) HO.out.data.1 (by rw [← HND.out]; exact hdl)
        · exact okN wn _ (by omega) (by omega)) (fun x hx g hg => by
        simp only [List.mem_cons, List.mem_nil_iff, or_false] at hx
        rcases hx with rfl | rfl | rfl | rfl
        · cases hg
        · cases hg
        · have h1 := HDL.out g hg
          have h2 := HB0.out
          have h3 := (HKA.out.trans (HK1.out.trans hHeld)).size
          omega
        · cases hg)
    have HE0 := hid_of hE0
    have HRUN0 : Hid (run [itN 2, itN mem, itB (.slice dao nd dc) p.data, itN (nf : Int)] = .ok (headB p ++ (p.fns.take 0).flatMap fnB)) := by
      unfold Hid
      rw [HMEM.out, HNF.out, HRH.out.1]
      simp
    clear hE0 hHeld hHeld2 HC0 HC1 HC2
    generalize wn.alloc (.cells #[.int .i64 1, .int .i64 2, .slice none 0 0, .int .i64 1, .int .i64 mem, .slice none 0 0, .int .i64 4, .int .i64 0, .slice dao nd dc, .int .i64 1, .int .i64 (nf : Int), .slice none 0 0] 63) = w4 at *
    generalize wn.heap.size = g4 at *
    go_wp2_with fail
    go_loopw [5, 6] (fun tv i wr => ∃ (k : Nat) (its : List ItV), k ≤ nf ∧ i = .int .i64 k ∧ Hid (its.length = 4 + 4 * k) ∧ Hid (EnK w0 wr tv its) ∧ Hid (run its = .ok (headB p ++ (p.fns.take k).flatMap fnB)) ∧ Hid ((headB p ++ (p.fns.take k).flatMap fnB).length ≤ 65600 + 41000 * k)) (fun _ i _ => nf - (intOf i).toNat)
    case atStart => exact ⟨0, [itN 2, itN mem, itB (.slice dao nd dc) p.data, itN (nf : Int)], by omega, rfl, (by unfold Hid; rfl), HE0, HRUN0, (by unfold Hid; have := HRH.out.2; simpa using this)⟩
    case round =>
      obtain ⟨k, its, hk, rfl, HIL, HEK, HRU, HLN⟩ := hrel
      have hbr : wr.heap[gp]? = some (.cells #[.int .i64 mem, .slice dao nd dc, .slice fao nf fc] 25 (0, 0)) := (HEK.out.kept.block gp (Array.getElem?_eq_some_iff.1 HBA.out).1 (fun f => f)).trans HBA.out
      have c2 := cell_block _ gp 2 _ _ _ hbr
      by_cases hlt : k < nf
      · have hltI : (k : Int) < (nf : Int) := by omega
        obtain ⟨g, o, f, e1, hgB, hfi, hfa⟩ := (HF.out.kept (HKA.out.trans HEK.out.kept) (fun _ _ f => f)).at (i := k) (by rw [← HNF.out]; exact hlt)
        subst e1
        obtain ⟨cao, cc, x0, x1, x2, x3, hri, hcl⟩ := fn_read hfa
        have hfm := List.mem_of_getElem? hfi
        have hfo := HO.out.fns f hfm
        obtain ⟨⟨r1, r2, r3⟩, r4⟩ := HFS.out f hfm
        have hrb := right_bytes hfo.code r4
        obtain ⟨fa, hfa'⟩ : ∃ z, z = f.a := ⟨_, rfl⟩
        obtain ⟨fl, hfl'⟩ : ∃ z, z = f.l := ⟨_, rfl⟩
        obtain ⟨fr, hfr'⟩ : ∃ z, z = f.r := ⟨_, rfl⟩
        obtain ⟨nc, hnc⟩ : ∃ z, z = f.code.length := ⟨_, rfl⟩
        have hncb := hfo.len
        have HFN : Hid (∀ (l : List Int) (bv : Value), run its = .ok l → l.length ≤ 3900000 → run (its ++ [itN fa, itN fl, itN fr, itB bv (encB f.code)]) = .ok (l ++ fnB f)) := fun l bv h1 h2 => by rw [hfa', hfl', hfr']; exact run_fn f bv h1 h2 r1 r2 r3 hrb.2
        have HFL := hid_of (fnB_len r1 r2 r3 hrb.2)
        rw [← hfa'] at x0 r1
        rw [← hfl'] at x1 r2
        rw [← hfr'] at x2 r3
        rw [← hnc] at x3 hri hncb
        have hkB : Kept (fun _ => False) wr (wr.alloc (.cells #[.int .i64 fa, .int .i64 fl, .int .i64 fr, .slice cao nc cc] 50)) := (Kept.refl _ _).alloc _
        have hbB := heap_alloc_new wr (.cells #[.int .i64 fa, .int .i64 fl, .int .i64 fr, .slice cao nc cc] 50)
        have HEN := hid_of (encode_ref (.slice cao nc cc) f.code _ (hri.kept hkB (fun _ _ f => f)) hfo.code (by rw [← hnc]; omega))
        have HE5 := hid_of (HEK.out.same hkB)
        have HBB5 := hid_of hbB
        have HTV : Hid (u5.ownBlock ≠ some wr.heap.size) := fun e => by have := (HEK.out.row.lt _ e).2; omega
        have y3 := cell_block _ wr.heap.size 3 _ _ _ hbB
        have HFI := hid_of hfi
        have HRB := hid_of hrb
        have HE4 := hid_of r4
        clear hfa hri hcl hfo hfa' hfl' hfr' hnc hkB hbB hfi hfm hrb r4 hbr
        go_upto_region 9 with fail
        generalize wr.alloc (.cells #[.int .i64 fa, .int .i64 fl, .int .i64 fr, .slice cao nc cc] 50) = w5 at *
        generalize wr.heap.size = gx at *
        clear x0 x1 x2 x3 c2
        go_wp2_with fail
        refine HEN.out.mono ?_
        rintro e w6 ⟨hk6, he6⟩
        rw [if_pos HE4.out] at he6
        obtain ⟨v6, rfl, ho6⟩ := he6
        obtain ⟨bo, bc, hv6⟩ := ownsRow_shape ho6
        obtain ⟨bl, hbl⟩ : ∃ n, n = (encB f.code).length := ⟨_, rfl⟩
        rw [← hbl] at hv6 ho6
        subst hv6
        have HE6 := hid_of (HE5.out.same hk6)
        have HO6 := hid_of ho6
        have HS5 : Hid (∀ q, u5.ownBlock = some q → q < w5.heap.size) := fun q hq => (HE5.out.row.lt q hq).2
        have hbx : w6.heap[gx]? = some (.cells #[.int .i64 fa, .int .i64 fl, .int .i64 fr, .slice cao nc cc] 50 (0, 0)) := (hk6.block gx (Array.getElem?_eq_some_iff.1 HBB5.out).1 (fun f => f)).trans HBB5.out
        have HX0 : Hid (w6.cell? ⟨gx, 0, none⟩ = some (.int .i64 fa)) := cell_block _ gx 0 _ _ _ hbx
        have HX1 : Hid (w6.cell? ⟨gx, 1, none⟩ = some (.int .i64 fl)) := cell_block _ gx 1 _ _ _ hbx
        have HX2 : Hid (w6.cell? ⟨gx, 2, none⟩ = some (.int .i64 fr)) := cell_block _ gx 2 _ _ _ hbx
        have HBL := hid_of hbl
        clear hk6 ho6 hbx HEN HE5 HBB5 y3 hbl
        go_upto_region 10 with fail
        refine wp_region_held_drew (S := fun w' => Kept (fun k => u5.ownBlock = some k) w6 w') (by kernel_rfl) (Kept.refl _ _).drew (fun hHeld => ?_)
        refine wpAnyH_take (i := 0) (v := ?_) rfl (by kernel_rfl) (by kernel_rfl) (by kernel_rfl) (fun _ _ _ h => h) (Or.inl ⟨by rfl, ?_⟩) (by assumption) ?_
        rotate_left 1
        · intro w hSw
          go_simp
          try with_reducible rfl
        try simp only [Act.put, List.getElem_toArray, List.getElem_cons_zero, List.getElem_cons_succ, List.setIfInBounds_toArray, List.set_cons_zero, List.set_cons_succ]
        refine wpAnyH_take (i := 1) (v := ?_) rfl (by kernel_rfl) (by kernel_rfl) (by kernel_rfl) (fun _ _ _ h => h) (Or.inl ⟨by rfl, ?_⟩) (by assumption) ?_
        rotate_left 1
        · intro w hSw
          go_simp
          try with_reducible rfl
        try simp only [Act.put, List.getElem_toArray, List.getElem_cons_zero, List.getElem_cons_succ, List.setIfInBounds_toArray, List.set_cons_zero, List.set_cons_succ]
        refine wpAnyH_take (i := 2) (v := ?_) rfl (by kernel_rfl) (by kernel_rfl) (by kernel_rfl) (fun _ _ _ h => h) (Or.inl ⟨by rfl, ?_⟩) (by assumption) ?_
        rotate_left 1
        · intro w hSw
          have qc := Kept.cell hSw HX0.out HTV.out
          go_simp
          try with_reducible rfl
        try simp only [Act.put, List.getElem_toArray, List.getElem_cons_zero, List.getElem_cons_succ, List.setIfInBounds_toArray, List.set_cons_zero, List.set_cons_succ]
        refine wpAnyH_take (i := 4) (v := ?_) rfl (by kernel_rfl) (by kernel_rfl) (by kernel_rfl) (fun _ _ _ h => h) (Or.inl ⟨by rfl, ?_⟩) (by assumption) ?_
        rotate_left 1
        · intro w hSw
          go_simp
          try with_reducible rfl
        try simp only [Act.put, List.getElem_toArray, List.getElem_cons_zero, List.getElem_cons_succ, List.setIfInBounds_toArray, List.set_cons_zero, List.set_cons_succ]
        refine wpAnyH_take (i := 5) (v := ?_) rfl (by kernel_rfl) (by kernel_rfl) (by kernel_rfl) (fun _ _ _ h => h) (Or.inl ⟨by rfl, ?_⟩) (by assumption) ?_
        rotate_left 1
        · intro w hSw
          have qc := Kept.cell hSw HX1.out HTV.out
          go_simp
          try with_reducible rfl
        try simp only [Act.put, List.getElem_toArray, List.getElem_cons_zero, List.getElem_cons_succ, List.setIfInBounds_toArray, List.set_cons_zero, List.set_cons_succ]
        refine wpAnyH_take (i := 7) (v := ?_) rfl (by kernel_rfl) (by kernel_rfl) (by kernel_rfl) (fun _ _ _ h => h) (Or.inl ⟨by rfl, ?_⟩) (by assumption) ?_
        rotate_left 1
        · intro w hSw
          go_simp
          try with_reducible rfl
        try simp only [Act.put, List.getElem_toArray, List.getElem_cons_zero, List.getElem_cons_succ, List.setIfInBounds_toArray, List.set_cons_zero, List.set_cons_succ]
        refine wpAnyH_take (i := 8) (v := ?_) rfl (by kernel_rfl) (by kernel_rfl) (by kernel_rfl) (fun _ _ _ h => h) (Or.inl ⟨by rfl, ?_⟩) (by assumption) ?_
        rotate_left 1
        · intro w hSw
          have qc := Kept.cell hSw HX2.out HTV.out
          go_simp
          try with_reducible rfl
        try simp only [Act.put, List.getElem_toArray, List.getElem_cons_zero, List.getElem_cons_succ, List.setIfInBounds_toArray, List.set_cons_zero, List.set_cons_succ]
        refine wpAnyH_take (i := 10) (v := ?_) rfl (by kernel_rfl) (by kernel_rfl) (by kernel_rfl) (fun _ _ _ h => h) (Or.inl ⟨by rfl, ?_⟩) (by assumption) ?_
        rotate_left 1
        · intro w hSw
          go_simp
          try with_reducible rfl
        try simp only [Act.put, List.getElem_toArray, List.getElem_cons_zero, List.getElem_cons_succ, List.setIfInBounds_toArray, List.set_cons_zero, List.set_cons_succ]
        refine wpAnyH_take (i := 11) (v := ?_) rfl (by kernel_rfl) (by kernel_rfl) (by kernel_rfl) (fun _ _ _ h => h) (Or.inl ⟨by rfl, ?_⟩) (by assumption) ?_
        rotate_left 1
        · intro w hSw
          go_simp
          try with_reducible rfl
        try simp only [Act.put, List.getElem_toArray, List.getElem_cons_zero, List.getElem_cons_succ, List.setIfInBounds_toArray, List.set_cons_zero, List.set_cons_succ]
        refine wpAnyH_ready (rs := [3]) (by kernel_rfl) (by simp) ?_
        refine AllReadyH.cons rfl (fun K hK => ?_) AllReadyH.nil
        go_simp
        refine (rnum_any (fa) _).mono ?_
        rintro e wa ⟨rfl, hkn⟩
        have HKwa : Hid (Kept (fun _ => False) w6 wa) := Kept.trans (Kept.drew (Kept.refl _ _)) hkn
        refine hK.out _ _ (Kept.trans hHeld (hkn.mono (fun _ _ f => f.elim))) (fun hHeld => ?_)
        clear hK K hkn
        try simp only [Act.put, List.getElem_toArray, List.getElem_cons_zero, List.getElem_cons_succ, List.setIfInBounds_toArray, List.set_cons_zero, List.set_cons_succ]
        refine wpAnyH_ready (rs := [6]) (by kernel_rfl) (by simp) ?_
        refine AllReadyH.cons rfl (fun K hK => ?_) AllReadyH.nil
        go_simp
        refine (rnum_any (fl) _).mono ?_
        rintro e wb ⟨rfl, hkn⟩
        have HKwb : Hid (Kept (fun _ => False) w6 wb) := Kept.trans HKwa.out hkn
        refine hK.out _ _ (Kept.trans hHeld (hkn.mono (fun _ _ f => f.elim))) (fun hHeld => ?_)
        clear hK K hkn
        try simp only [Act.put, List.getElem_toArray, List.getElem_cons_zero, List.getElem_cons_succ, List.setIfInBounds_toArray, List.set_cons_zero, List.set_cons_succ]
        refine wpAnyH_ready (rs := [9]) (by kernel_rfl) (by simp) ?_
        refine AllReadyH.cons rfl (fun K hK => ?_) AllReadyH.nil
        go_simp
        refine (rnum_any (fr) _).mono ?_
        rintro e wc ⟨rfl, hkn⟩
        have HKwc : Hid (Kept (fun _ => False) w6 wc) := Kept.trans HKwb.out hkn
        refine hK.out _ _ (Kept.trans hHeld (hkn.mono (fun _ _ f => f.elim))) (fun hHeld => ?_)
        clear hK K hkn
        try simp only [Act.put, List.getElem_toArray, List.getElem_cons_zero, List.getElem_cons_succ, List.setIfInBounds_toArray, List.set_cons_zero, List.set_cons_succ]
        obtain ⟨tv', w8, hr8, hE8, hk8⟩ := EnK.app (HE6.out.same HKwc.out) [itN fa, itN fl, itN fr, itB (.slice bo bl bc) (encB f.code)] (by rw [HIL.out]; simp; omega) (fun x hx => by
          simp only [List.mem_cons, List.mem_nil_iff, or_false] at hx
          rcases hx with rfl | rfl | rfl | rfl
          · exact okN wc _ (by omega) (by omega)
          · exact okN wc _ (by omega) (by omega)
          · exact okN wc _ (by omega) (by omega)
          · exact okB wc _ _ (isB_own (HKwc.out.ownsRow HO6.out (fun _ _ f => f))) HRB.out.1.1 (by have := HRB.out.2; omega)) (fun x hx q hq => by
          simp only [List.mem_cons, List.mem_nil_iff, or_false] at hx
          rcases hx with rfl | rfl | rfl | rfl
          · cases hq
          · cases hq
          · cases hq
          · have h1 := HO6.out.lt q hq
            refine ⟨Nat.lt_of_lt_of_le h1.2 HKwc.out.size, fun e => ?_⟩
            have := HS5.out q e
            omega) (fun x hx => by
          simp only [List.mem_cons, List.mem_nil_iff, or_false] at hx
          rcases hx with rfl | rfl | rfl | rfl <;> rfl)
        have HR8 := hid_of hr8
        have HE8 := hid_of hE8
        have HS8 : Hid (Kept (fun k => u5.ownBlock = some k) w6 w8) := (HKwc.out.mono (fun _ _ f => f.elim)).trans hk8
        clear hr8 hE8 hk8
        refine wpAnyH_ready (rs := [12]) (by kernel_rfl) (by simp) ?_
        refine AllReadyH.cons rfl (fun K hK => ?_) AllReadyH.nil
        go_simp
        refine hK.out _ _ (Kept.alloc hHeld _) (fun hHeld2 => ?_)
        clear hK K
        try simp only [Act.put, List.getElem_toArray, List.getElem_cons_zero, List.getElem_cons_succ, List.setIfInBounds_toArray, List.set_cons_zero, List.set_cons_succ]
        refine wpAnyH_ready (rs := [13]) (by kernel_rfl) (by simp) ?_
        refine AllReadyH.cons rfl (fun K hK => ?_) AllReadyH.nil
        refine stp_app rfl (.tmp 46) (.tmp 58) 37 37 rfl _ _ rfl rfl tv' w8 HR8.out ?_
        refine hK.out _ _ HS8.out (fun hHeld3 => ?_)
        clear hK K
        try simp only [Act.put, List.getElem_toArray, List.getElem_cons_zero, List.getElem_cons_succ, List.setIfInBounds_toArray, List.set_cons_zero, List.set_cons_succ]
        refine wpAnyH_take (i := 14) (v := ?_) rfl (by kernel_rfl) (by kernel_rfl) (by kernel_rfl) (fun _ _ _ h => h) (Or.inl ⟨by rfl, ?_⟩) (by assumption) ?_
        rotate_left 1
        · intro w hSw
          go_simp
          try with_reducible rfl
        try simp only [Act.put, List.getElem_toArray, List.getElem_cons_zero, List.getElem_cons_succ, List.setIfInBounds_toArray, List.set_cons_zero, List.set_cons_succ]
        refine wpAnyH_done (by kernel_rfl) ?_ _
        have htk : p.fns.take (k + 1) = p.fns.take k ++ [f] := by rw [List.take_add_one, HFI.out]; rfl
        have HRU2 : Hid (run (its ++ [itN fa, itN fl, itN fr, itB (.slice bo bl bc) (encB f.code)]) = .ok (headB p ++ (p.fns.take (k + 1)).flatMap fnB)) := by
          unfold Hid
          rw [HFN.out _ _ HRU.out (by have := HLN.out; omega), htk]
          simp
        have HLN2 : Hid ((headB p ++ (p.fns.take (k + 1)).flatMap fnB).length ≤ 65600 + 41000 * (k + 1)) := by
          unfold Hid
          have h1 := HLN.out
          have h2 := HFL.out
          rw [htk, List.flatMap_append, ← List.append_assoc, List.length_append]
          simp only [List.flatMap_cons, List.flatMap_nil, List.append_nil]
          omega
        have HIL2 : Hid ((its ++ [itN fa, itN fl, itN fr, itB (.slice bo bl bc) (encB f.code)]).length = 4 + 4 * (k + 1)) := by
          unfold Hid
          rw [List.length_append, HIL.out]
          simp
          omega
        clear htk hHeld hHeld2 hHeld3 HR8 HS8
        go_wp2
        go_roundw
        case rel => exact ⟨k + 1, _, by omega, by go_num, HIL2, HE8, HRU2, HLN2⟩
        case measure => simp [intOf]; omega
      · have hnl : ¬ ((k : Int) < (nf : Int)) := by omega
        have HBP : Hid (run its = .ok (bytesP p)) := by
          unfold Hid
          rw [HRU.out, List.take_of_length_le (by rw [← HNF.out]; omega)]
          rfl
        have hDN := rdone_row u5 its wr (by rw [HIL.out]; omega) (own_mono HEK.out.row (Nat.zero_le _)) (fun i hi => HEK.out.ok _ (by rw [List.getD, List.getElem?_eq_getElem hi]; exact List.getElem_mem hi))
        rw [HBP.out] at hDN
        have HDN := hid_of hDN
        have HKE := hid_of (HKA.out.trans HEK.out.kept)
        clear hDN hbr
        go_wp2_with fail
        refine HDN.out.mono ?_
        rintro e w9 ⟨v9, rfl, ho9, hk9⟩
        rw [show (St.err (.ok (bytesP p))) = 0 from rfl]
        have hob : w9.ownsRow w.heap.size 5 1 v9 (bytesP p).length ((bytesP p).map (Value.int .u8)) := own_mono ho9 HKE.out.size
        have HK9 := hid_of (HKE.out.trans hk9)
        obtain ⟨bl, hbl⟩ : ∃ n, n = (bytesP p).length := ⟨_, rfl⟩
        obtain ⟨bo, bc, hv9⟩ := ownsRow_shape hob
        rw [← hbl] at hv9
        subst hv9
        have HOB := hid_of hob
        have HBLN := hid_of hbl
        have hbig : bl ≤ 4194304 := by rw [hbl]; exact run_ok_len its _ HBP.out
        clear hob ho9 hk9 HDN hbl
        by_cases hlong : 1048576 < bl
        · have hlI : (1048576 : Int) < (bl : Int) := by omega
          have HR : Hid (EncPR p w (.returned (.tuple #[.slice none 0 0, .int .i64 2])) w9) := ⟨HK9.out, by rw [HPE.out, ← HBLN.out, if_pos hlong, if_neg (by decide)]⟩
          go_wp2
          go_ret2
          exact HR.out
        · have hlI : ¬ ((1048576 : Int) < (bl : Int)) := by omega
          have HR : Hid (EncPR p w (.returned (.tuple #[.slice bo bl bc, .int .i64 0])) w9) := ⟨HK9.out, by rw [HPE.out, ← HBLN.out, if_neg hlong, if_pos rfl]; exact ⟨_, rfl, by have h9 := HOB.out; rw [← HBLN.out] at h9; exact h9⟩⟩
          go_wp2
          go_ret2
          exact HR.out
  · have HPE : Hid (encPE p = checkP p) := by unfold Hid encPE; rw [if_neg hck]
    have HR : Hid (EncPR p w (.returned (.tuple #[.slice none 0 0, .int .i64 (checkP p)])) w1) := ⟨HKA.out.trans HK1.out, by rw [HPE.out, if_neg hck]⟩
    have hb : (checkP p == 0) = false := by simp; exact hck
    have hb2 : (checkP p != 0) = true := by simp; exact hck
    generalize checkP p = ee at *
    go_wp2
    go_ret2
    exact HR.out
end Go.Proofs.Ytnjhnlohjhdcpaa

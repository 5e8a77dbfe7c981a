/-
  THb: Hb.
-/
import Derived.Test.YtcaadgcfceommaaGreatTHa
import Derived.Test.YtcaadgcfceommaaGreatTLc
import Derived.Test.YtcaadgcfceommaaGreatTLg
import Derived.Test.YtcaadgcfceommaaGreatTKa
namespace Go.Proofs.YtcaadgcfceommaaGreat
open Go.RowKit
set_option linter.unusedVariables false
set_option linter.unusedSimpArgs false
set_option maxRecDepth 100000

/-- Where an instruction lies. -/
theorem row_instr {w : World} {B n c : Nat} {ao : Option Addr} {fs : List FN} (h : RowF w B (.slice ao n c) fs) {k i : Nat} {f : FN} {x : IN} (hf : fs[k]? = some f) (hx : f.code[i]? = some x) : ∃ pg po cg co cc, ao = some ⟨pg, po, none⟩ ∧ w.cell? ⟨pg, po + k * 4, none⟩ = some (.int .i64 f.a) ∧ w.cell? ⟨pg, po + k * 4 + 1, none⟩ = some (.int .i64 f.l) ∧ w.cell? ⟨pg, po + k * 4 + 2, none⟩ = some (.int .i64 f.r) ∧
    w.cell? ⟨pg, po + k * 4 + 3, none⟩ = some (.slice (some ⟨cg, co, none⟩) f.code.length cc) ∧ RowI w (.slice (some ⟨cg, co, none⟩) f.code.length cc) f.code ∧ pg < B ∧ cg < B := by
  have hk : k < fs.length := (List.getElem?_eq_some_iff.1 hf).1
  have hi : i < f.code.length := (List.getElem?_eq_some_iff.1 hx).1
  obtain ⟨pg, po, f', rfl, hg, hf', hfa⟩ := h.at hk
  rw [hf] at hf'
  cases hf'
  obtain ⟨cao, cc, x0, x1, x2, x3, hri, hcl⟩ := fn_read hfa
  have hri2 := hri
  rcases hri with ⟨e, _⟩ | ⟨cg, co, c', e, hc⟩
  · rw [e] at hi; simp at hi
  · cases e
    exact ⟨pg, po, cg, co, cc, rfl, x0, x1, x2, x3, hri2, hg, hcl cg rfl (by omega)⟩
theorem rowI_cell {w : World} {cg co n c : Nat} {ys : List IN} (h : RowI w (.slice (some ⟨cg, co, none⟩) n c) ys) {i : Nat} {x : IN} (hx : ys[i]? = some x) : w.cell? ⟨cg, co + i * 2, none⟩ = some (.int .i64 x.op) ∧ w.cell? ⟨cg, co + i * 2 + 1, none⟩ = some (.int .i64 x.a) := by
  rcases h with ⟨e, _⟩ | ⟨g, o, c', e, hc⟩
  · rw [e] at hx; simp at hx
  · cases e
    exact ⟨hc i x hx 0 _ rfl, hc i x hx 1 _ rfl⟩
set_option maxHeartbeats 4000000 in
theorem all_any (v : Value) (p : PG) (w : World) (B : Nat) (h : PgIs w B v p) (ho : p.Ok) :
    Calls Tryz.prog 9 #[v] w fun e w' => (∃ n : Int, e = .returned (.int .i64 n)) ∧ Kept (fun _ => False) w w' := by
  obtain ⟨dv, fv, rfl, hd, hdl, hf⟩ := h
  obtain ⟨dao, dc, rfl⟩ := hd.shape
  obtain ⟨fao, fc, rfl⟩ := hf.shape
  obtain ⟨nf, hnf⟩ : ∃ n, n = p.fns.length := ⟨_, rfl⟩
  obtain ⟨nd, hnd⟩ : ∃ n, n = p.data.length := ⟨_, rfl⟩
  obtain ⟨mem, hmem⟩ : ∃ n, n = p.mem := ⟨_, rfl⟩
  rw [← hnf, ← hnd, ← hmem]
  rw [← hnf] at hf
  have hlf := ho.len
  rw [← hnf] at hlf
  have hnfI : (nf : Int) ≤ 140737488351232 := by omega
  have hkA : Kept (fun _ => False) w (w.alloc (.cells #[.int .i64 mem, .slice dao nd dc, .slice fao nf fc] 25)) := (Kept.refl _ _).alloc _
  have hb := heap_alloc_new w (.cells #[.int .i64 mem, .slice dao nd dc, .slice fao nf fc] 25)
  have HF := hid_of (hf.kept hkA (fun _ _ f => f))
  have HO := hid_of ho
  have HNF := hid_of hnf
  have HK := hid_of hkA
  have c2 := cell_block _ _ 2 _ _ _ hb
  clear hb hkA hd hdl hf hnf hnd hmem ho hlf
  go_enter Tryz.func9, Tryz.ntmps9
  go_wp2_with fail
  generalize w.alloc (.cells #[.int .i64 mem, .slice dao nd dc, .slice fao nf fc] 25) = W at *
  generalize w.heap.size = gb at *
  go_loop [3, 4] (fun nv iv => ∃ (k : Nat) (n : Int), k ≤ nf ∧ iv = .int .i64 (k : Int) ∧ nv = .int .i64 n ∧ 0 ≤ n ∧ n ≤ 200000000000000) (fun _ iv => nf - (intOf iv).toNat)
  case atStart => exact ⟨0, 0, by omega, rfl, rfl, by omega, by omega⟩
  case round =>
    obtain ⟨k, n, hk, rfl, rfl, hn0, hn1⟩ := hrel
    by_cases hlt : k < nf
    · have hltI : (k : Int) < (nf : Int) := by omega
      by_cases hsm : n ≤ 1048576
      · obtain ⟨pg, po, f, e1, hgB, hfi, hfa⟩ := HF.out.at (i := k) (by rw [← HNF.out]; exact hlt)
        subst e1
        obtain ⟨cao, cc, x0, x1, x2, x3, hri, hcl⟩ := fn_read hfa
        have hlc := (HO.out.fns f (List.mem_of_getElem? hfi)).len
        obtain ⟨nc, hnc⟩ : ∃ z, z = f.code.length := ⟨_, rfl⟩
        rw [← hnc] at x3 hlc
        have hncI : (nc : Int) ≤ 140737488351232 := by omega
        clear x0 x1 x2 hri hcl hfa hfi hnc hgB
        go_wp2
        go_round
        case rel => exact ⟨k + 1, n + nc, by omega, by go_num, by go_num, by omega, by omega⟩
        case measure => simp [intOf]; omega
      · go_wp2
        go_ret
        exact ⟨⟨_, rfl⟩, HK.out⟩
    · have hltI : ¬ ((k : Int) < (nf : Int)) := by omega
      go_wp2
      go_ret
      exact ⟨⟨_, rfl⟩, HK.out⟩
set_option maxHeartbeats 2000000 in
theorem rnd_any (v : Int) (n : Nat) (w : World) (h0 : -9223372036854775808 ≤ v) (h1 : v < 9223372036854775808) (hn : 0 < n) (hn1 : n ≤ 9223372036854775807) :
    Calls Tryz.prog 25 #[.int .i64 v, .int .i64 (n : Int)] w fun e w' => (∃ j : Nat, j < n ∧ e = .returned (.int .i64 (j : Int))) ∧ w' = w := by
  have hz : ¬ ((n : Int) = 0) := by omega
  have hnI : (0 : Int) < (n : Int) := by omega
  obtain ⟨r, hr⟩ : ∃ r, r = v.tmod (n : Int) := ⟨_, rfl⟩
  have hlt : r < (n : Int) := by rw [hr]; exact Int.tmod_lt_of_pos v hnI
  have hgt : -(n : Int) < r := by
    rw [hr]
    have := Int.tmod_lt_of_pos (-v) hnI
    rw [Int.neg_tmod] at this
    omega
  have hw1 : IntKind.i64.wrap r = r := by simp [IntKind.wrap, IntKind.bits, IntKind.signed]; omega
  by_cases hneg : r < 0
  · have hw2 : IntKind.i64.wrap (r + (n : Int)) = r + (n : Int) := by simp [IntKind.wrap, IntKind.bits, IntKind.signed]; omega
    go_enter Tryz.func25, Tryz.ntmps25
    go_wp2
    go_ret
    refine ⟨⟨(r + (n : Int)).toNat, by omega, ?_⟩, rfl⟩
    rw [Int.toNat_of_nonneg (by omega), hr]
    rfl
  · go_enter Tryz.func25, Tryz.ntmps25
    go_wp2
    go_ret
    refine ⟨⟨r.toNat, by omega, ?_⟩, rfl⟩
    rw [Int.toNat_of_nonneg (by omega), hr]
    rfl
def endsP (op : Int) : Bool := decide (op = 1 ∨ op = 2 ∨ op = 18)
set_option maxHeartbeats 2000000 in
theorem ends_any (op a : Int) (w : World) : Calls Tryz.prog 57 #[.agg #[.int .i64 op, .int .i64 a]] w fun e w' => e = .returned (.bool (endsP op)) ∧ Kept (fun _ => False) w w' := by
  have hk : Kept (fun _ => False) w (w.alloc (.cells #[.int .i64 op, .int .i64 a] 64)) := (Kept.refl _ _).alloc _
  have hb := heap_alloc_new w (.cells #[.int .i64 op, .int .i64 a] 64)
  have c0 := cell_block _ _ 0 _ _ _ hb
  have HK := hid_of hk
  clear hb hk
  by_cases h1 : op = 1
  · subst h1
    go_enter Tryz.func57, Tryz.ntmps57
    go_wp2
    go_ret
    exact ⟨rfl, HK.out⟩
  · have e1 : (op == 1) = false := by simpa using h1
    by_cases h2 : op = 2
    · subst h2
      go_enter Tryz.func57, Tryz.ntmps57
      go_wp2
      go_ret
      exact ⟨rfl, HK.out⟩
    · have e2 : (op == 2) = false := by simpa using h2
      have he : endsP op = (op == 18) := by unfold endsP; simp only [h1, h2, false_or]; rfl
      rw [he]
      go_enter Tryz.func57, Tryz.ntmps57
      go_wp2
      go_ret
      exact ⟨rfl, HK.out⟩
set_option maxHeartbeats 8000000 in
theorem lwants_any (v : Value) (p : PG) (w : World) (B : Nat) (h : PgIs w B v p) (hB : B ≤ w.heap.size) (ho : p.Ok) (k i : Nat) (f : FN) (x : IN) (hfk : p.fns[k]? = some f) (hxi : f.code[i]? = some x) (hax : x.op = 5 → 0 ≤ x.a ∧ x.a ≤ 1000000) :
    Calls Tryz.prog 56 #[v, .agg #[.int .i64 (k : Int), .int .i64 (i : Int)]] w fun e w' => e = .returned (.int .i64 (wantsS (stepAt p f i x))) ∧ Kept (fun _ => False) w w' := by
  have hpg := h
  obtain ⟨dv, fv, rfl, hd, hdl, hf⟩ := h
  obtain ⟨dao, dc, rfl⟩ := hd.shape
  obtain ⟨fao, fc, rfl⟩ := hf.shape
  obtain ⟨nf, hnf⟩ : ∃ n, n = p.fns.length := ⟨_, rfl⟩
  obtain ⟨nd, hnd⟩ : ∃ n, n = p.data.length := ⟨_, rfl⟩
  obtain ⟨mem, hmem⟩ : ∃ n, n = p.mem := ⟨_, rfl⟩
  rw [← hnf, ← hnd, ← hmem] at hpg ⊢
  rw [← hnf] at hf
  obtain ⟨pg, po, cg, co, cc, rfl, y0, y1, y2, y3, hri, hpgB, hcgB⟩ := row_instr hf hfk hxi
  obtain ⟨z0, z1⟩ := rowI_cell hri hxi
  obtain ⟨s, hs⟩ : ∃ g, g = w.heap.size := ⟨_, rfl⟩
  obtain ⟨W, hW⟩ : ∃ W, W = (w.alloc (.cells #[.int .i64 mem, .slice dao nd dc, .slice (some ⟨pg, po, none⟩) nf fc] 25)).alloc (.cells #[.int .i64 (k : Int), .int .i64 (i : Int)] 36) := ⟨_, rfl⟩
  obtain ⟨k1, x1, x2⟩ := allocs2 _ _ _ _ _ _ hW
  rw [← hs] at x1 x2
  obtain ⟨nc, hnc⟩ : ∃ z, z = f.code.length := ⟨_, rfl⟩
  have hlc := (ho.fns f (List.mem_of_getElem? hfk)).len
  rw [← hnc] at y3 hlc
  have hkn : (k : Int) < (nf : Int) := by have := (List.getElem?_eq_some_iff.1 hfk).1; omega
  have hin : (i : Int) < (nc : Int) := by have := (List.getElem?_eq_some_iff.1 hxi).1; omega
  have HKW := hid_of k1
  have hid_i : instrD p (k : Int) (i : Int) = some (x, f) := by
    unfold instrD
    rw [if_pos ⟨by omega, by omega⟩, show ((k : Int)).toNat = k by omega, hfk]
    simp only [Option.bind_some]
    rw [if_pos ⟨by omega, by omega⟩, show ((i : Int)).toNat = i by omega, hxi]
    rfl
  have HSX : Hid (∀ w', Kept (fun _ => False) W w' → w'.cell? ⟨s, 0, none⟩ = some (.int .i64 mem) ∧ w'.cell? ⟨s, 1, none⟩ = some (.slice dao nd dc) ∧ w'.cell? ⟨s, 2, none⟩ = some (.slice (some ⟨pg, po, none⟩) nf fc) ∧ w'.cell? ⟨s + 1, 0, none⟩ = some (.int .i64 (k : Int)) ∧ w'.cell? ⟨s + 1, 1, none⟩ = some (.int .i64 (i : Int)) ∧ w'.cell? ⟨pg, po + k * 4 + 3, none⟩ = some (.slice (some ⟨cg, co, none⟩) nc cc) ∧ w'.cell? ⟨cg, co + i * 2, none⟩ = some (.int .i64 x.op) ∧ w'.cell? ⟨cg, co + i * 2 + 1, none⟩ = some (.int .i64 x.a)) := fun w' hw => ⟨hw.cell (cell_block _ _ 0 _ _ _ x1) (fun f => f), hw.cell (cell_block _ _ 1 _ _ _ x1) (fun f => f), hw.cell (cell_block _ _ 2 _ _ _ x1) (fun f => f), hw.cell (cell_block _ _ 0 _ _ _ x2) (fun f => f), hw.cell (cell_block _ _ 1 _ _ _ x2) (fun f => f), (k1.trans hw).cell y3 (fun f => f), (k1.trans hw).cell z0 (fun f => f), (k1.trans hw).cell z1 (fun f => f)⟩
  have HCT : Hid (∀ W', Kept (fun _ => False) W W' → Calls Tryz.prog 20 #[.agg #[.int .i64 mem, .slice dao nd dc, .slice (some ⟨pg, po, none⟩) nf fc], .agg #[.int .i64 (k : Int), .int .i64 (i : Int)]] W' fun e w' => e = .returned (.tuple #[.int .i64 (tkgv p f x).1, .int .i64 (tkgv p f x).2]) ∧ Kept (fun _ => False) W' w') := fun W' hW' => by
    have h9 := ctakes_any _ p W' B (hpg.kept (k1.trans hW') (fun _ _ f => f)) (Nat.le_trans hB (k1.trans hW').size) ho (k : Int) (i : Int)
    have e : takesD p (k : Int) (i : Int) = tkgv p f x := by unfold takesD; rw [hid_i]
    rw [e] at h9
    exact h9
  obtain ⟨xo, hxo⟩ : ∃ z, z = x.op := ⟨_, rfl⟩
  obtain ⟨xa, hxa⟩ : ∃ z, z = x.a := ⟨_, rfl⟩
  rw [← hxo, ← hxa] at HSX hax
  obtain ⟨wv, hwv⟩ : ∃ z, z = wantsS (stepAt p f i x) := ⟨_, rfl⟩
  have HE : Hid (wv = if xo = 5 then xa + 1 else (tkgv p f x).1) := by unfold Hid; rw [hwv, hxo, hxa]; rfl
  rw [← hwv]
  clear x1 x2 k1 y0 y1 y2 y3 z0 z1 hri hpg hd hdl hf hnf hnd hmem ho hB hfk hxi hid_i hnc hlc hpgB hcgB hxo hxa hwv
  go_enter Tryz.func56, Tryz.ntmps56
  go_upto_region 1 with fail
  rw [← hW, ← hs]
  clear hW hs
  refine wp_region_held_drew (S := fun w' => Kept (fun _ => False) W w') (by kernel_rfl) ((Kept.refl _ _).drew) (fun hHeld => ?_)
  have hKd : Kept (fun _ => False) W W.drew := (Kept.refl _ _).drew
  generalize W.drew = wd at *
  iterate 11
    refine tkn (v := ?_) 0 rfl ?_ ?_; rotate_left 1
    · intro w hSw; obtain ⟨a0, a1, a2, b0, b1, d0, e0, e1⟩ := HSX.out w hSw; go_simp; try with_reducible rfl
    try simp only [Act.put, tdy]
  have hkn1 : Kept (fun _ => False) wd (wd.alloc (.cells #[.int .i64 0, .int .i64 0] 64)) := (Kept.refl _ _).alloc _
  have HKF := hid_of (hKd.alloc (.cells #[.int .i64 xo, .int .i64 xa] 64))
  have HX2 := hid_of (heap_alloc_new wd (.cells #[.int .i64 xo, .int .i64 xa] 64))
  refine wpAnyH_ready (rs := [11]) (by kernel_rfl) (by simp) ?_
  refine AllReadyH.cons rfl (fun K hK => ?_) AllReadyH.nil
  go_simp
  refine hK.out _ _ (hKd.trans hkn1) (fun hHeld => ?_)
  clear hK K
  try simp only [Act.put, tdy]
  refine wpAnyH_ready (rs := [12]) (by kernel_rfl) (by simp) ?_
  refine AllReadyH.cons rfl (fun K hK => ?_) AllReadyH.nil
  go_simp
  refine hK.out _ _ HKF.out (fun hHeld => ?_)
  clear hK K
  try simp only [Act.put, tdy]
  refine wpAnyH_done (by kernel_rfl) ?_ _
  clear hHeld hKd hkn1
  generalize wd.alloc (.cells #[.int .i64 xo, .int .i64 xa] 64) = w2 at *
  generalize wd.heap.size = gx at *
  have q0 := cell_block _ _ 0 _ _ _ HX2.out
  have q1 := cell_block _ _ 1 _ _ _ HX2.out
  obtain ⟨a0, a1, a2, b0, b1, _, _, _⟩ := HSX.out _ HKF.out
  by_cases h5 : xo = 5
  · have HV : Hid (wv = xa + 1) := by unfold Hid; rw [HE.out, if_pos h5]
    have hxr := hax h5
    subst h5
    have HKE := hid_of (HKW.out.trans HKF.out)
    clear HSX HCT HE hax
    go_wp2
    go_ret
    refine ⟨by rw [HV.out]; go_num, HKE.out⟩
  · have HV : Hid (wv = (tkgv p f x).1) := by unfold Hid; rw [HE.out, if_neg h5]
    have h5b : (xo == 5) = false := by simpa using h5
    clear HSX HE hax
    go_wp2_with fail
    refine (HCT.out _ HKF.out).mono ?_
    rintro e w3 ⟨rfl, hk3⟩
    have HKE := hid_of ((HKW.out.trans HKF.out).trans hk3)
    clear hk3 HCT
    go_wp2
    go_ret
    exact ⟨by rw [HV.out]; rfl, HKE.out⟩
end Go.Proofs.YtcaadgcfceommaaGreat

/-
  TNb: Nb.
-/
import Derived.Test.YtcaadgcfceommaaGreatTNa
namespace Go.Proofs.YtcaadgcfceommaaGreat
open Go.ChangeShapes Go.WideShapes Go.ChangeAt Go.RowKit Go.Deep
set_option linter.unusedVariables false
set_option linter.unusedSimpArgs false
set_option maxRecDepth 100000

section
variable {P : Program} {ops : Array Oper} {o : Oper} {a : Act} {w : World} {K : Act → World → Prop} {Q : Exit → Act → World → Prop} {E : Prop}
theorem stp_store_row (hgd : o.guard = none) (ty : TypeId) (x y : Operand) (ho : o.op = .store ty x y)
    (g : Nat) (cells : Array Value) (hx : a.eval x = .pointer (some ⟨g, 0, none⟩)) (hy : a.eval y = .agg cells)
    (t : TypeId) (old : Array Value) (hg : w.heap[g]? = some (.cells old t (0, 0))) (hi : (P.info? ty).map (·.size) = some cells.size)
    (hold : old.size = cells.size) (h1 : cells.all (·.oneCell') = true)
    (h : K (a.put o.dst undef) (w.setRow g cells)) : if Region.wanted o (yielded ops a.tmps) = true then Oper.wp P o a w K Q else E := by
  have hw : Region.wanted o (yielded ops a.tmps) = true := by simp [Region.wanted, hgd]
  rw [if_pos hw]
  exact wp_store_row ty x y ho g cells hx hy t old hg hi hold h1 h
end
theorem own_emp {w : World} {base e s g : Nat} (h : w.heap[g]? = some (.cells #[] e (0, 0))) (hb : base ≤ g) : w.ownsRow base e s (.slice (some ⟨g, 0, none⟩) 0 0) 0 [] :=
  ⟨by simp, .inr ⟨g, 0, #[], rfl, hb, h, Nat.le_refl _, by decide, by simp, by simp⟩⟩
/-- What holds while the functions are set apart. -/
structure RtK (w wr : World) (gb g3 : Nat) (mem : Int) (dvp fvp dv fv : Value) (p : PG) (k : Nat) (cvs : List Value) : Prop where
  box : wr.heap[gb]? = some (.cells #[.int .i64 mem, dvp, fvp] 25 (0, 0))
  res : wr.heap[gb + 1]? = some (.cells #[.int .i64 0, .slice none 0 0, .slice none 0 0] 25 (0, 0))
  blk : wr.heap[g3]? = some (.cells #[.int .i64 mem, dv, fv] 25 (0, 0))
  own : OwnF w.heap.size wr fv (p.fns.take k) cvs
  dat : wr.ownsRow w.heap.size 5 1 dv p.data.length (p.data.map (Value.int .u8))
  kept : Kept (fun _ => False) w wr
  off : w.heap.size = gb ∧ gb + 1 < g3
theorem RtK.next {w wr W : World} {gb g3 : Nat} {mem : Int} {dvp fvp dv fv cv : Value} {p : PG} {k : Nat} {cvs : List Value} {f : FN} (h : RtK w wr gb g3 mem dvp fvp dv fv p k cvs) (hf : p.fns[k]? = some f) (hk : Kept (fun _ => False) wr W) (hcv : W.ownsRow wr.heap.size 64 2 cv f.code.length (icells f.code)) (hone : cv.oneCell' = true) (hsz : p.fns.length * 48 ≤ 140737488355328) :
    ∃ fv' w7, (Builtin.append_ #[23, 23] 23 #[fv, .slice (some ⟨W.heap.size, 0, none⟩) 1 1]).run Tryz.prog (W.alloc (.cells #[.int .i64 f.a, .int .i64 f.l, .int .i64 f.r, cv] 56)) = .ok fv' w7 ∧ w7.heap[g3]? = some (.cells #[.int .i64 mem, dv, fv] 25 (0, 0)) ∧ RtK w (w7.setCell ⟨g3, 2, none⟩ fv') gb g3 mem dvp fvp dv fv' p (k + 1) (cvs ++ [cv]) := by
  have hlt : k < p.fns.length := (List.getElem?_eq_some_iff.1 hf).1
  have hlen : (p.fns.take k).length = k := by rw [List.length_take]; omega
  have hown := h.own.kept hk (fun _ _ f => f)
  have hbW : w.heap.size ≤ W.heap.size := Nat.le_trans h.kept.size hk.size
  obtain ⟨fv', w7, hr, hO, hka⟩ := hown.app f cv (own_mono hcv h.kept.size) (fun q hq c hc e => by
    obtain ⟨i, G, _, _, hG⟩ := h.own.mem hc
    have h1 := (hcv.lt q hq).1
    have h2 := (hG.lt q e).2
    omega) hone hbW (by rw [hlen]; omega)
  have blkW := box_kept hk h.blk (fun f => f)
  have boxW := box_kept hk h.box (fun f => f)
  have resW := box_kept hk h.res (fun f => f)
  have datW := hk.ownsRow h.dat (fun _ _ f => f)
  have blk7 := box_kept hka blkW (own_box hown.row blkW (by decide))
  have box7 := box_kept hka boxW (own_box hown.row boxW (by decide))
  have res7 := box_kept hka resW (own_box hown.row resW (by decide))
  have dat7 := hka.ownsRow datW (fun q hq e => own_unlike datW hown.row (by decide) q hq e)
  have hks := kept_set w7 g3 2 fv'
  have ho := h.off
  refine ⟨fv', w7, hr, blk7, ⟨box_kept hks box7 (by omega), box_kept hks res7 (by omega), set_block _ g3 2 _ _ _ blk7 fv', ?_, hks.ownsRow dat7 (fun q hq e => by subst e; exact own_box dat7 blk7 (by decide) hq), ?_, ho⟩⟩
  · have e : p.fns.take (k + 1) = p.fns.take k ++ [f] := by rw [List.take_add_one, hf]; rfl
    rw [e]
    exact hO.box blk7 (by decide) (by decide) hks
  · exact ((h.kept.trans hk).step hka (fun i hi e => by have := (hown.row.lt i e).1; omega)).step hks (fun i hi e => by omega)
theorem RtK.done {w wr w' : World} {gb g3 : Nat} {mem : Int} {dvp fvp dv fv : Value} {p : PG} {cvs : List Value} (h : RtK w wr gb g3 mem dvp fvp dv fv p p.fns.length cvs) (hk : Kept (fun q => q = gb + 1) wr w') : OwnP w.heap.size w' dv fv cvs p ∧ Kept (fun _ => False) w w' := by
  have h1 := h.own
  rw [List.take_length] at h1
  exact ⟨⟨hk.ownsRow h.dat (fun q hq e => by subst e; exact own_box h.dat h.res (by decide) hq), h1.box h.res (by decide) (by decide) hk⟩, h.kept.step hk (fun i hi e => by have := h.off; omega)⟩

set_option maxHeartbeats 32000000 in
theorem rtwin_p (v : Value) (p : PG) (w : World) (B : Nat) (h : PgIs w B v p) (hB : B ≤ w.heap.size) (ho : p.Ok) : Calls Tryz.prog 32 #[v] w (TwinR p w) := by
  obtain ⟨dv, fv, rfl, hd, hdl, hf⟩ := h
  obtain ⟨dao, dc, rfl⟩ := hd.shape
  obtain ⟨fao, fc, rfl⟩ := hf.shape
  have hbd := ho.data.2
  have hlf := ho.len
  have HD := hid_of hd
  have HF := hid_of hf
  have HO := hid_of ho
  obtain ⟨nd, hnd⟩ : ∃ n, n = p.data.length := ⟨_, rfl⟩
  obtain ⟨nf, hnf⟩ : ∃ n, n = p.fns.length := ⟨_, rfl⟩
  obtain ⟨mem, hmem⟩ : ∃ m, m = p.mem := ⟨_, rfl⟩
  have HNF := hid_of hnf
  have HND := hid_of hnd
  have HMEM := hid_of hmem
  have HB0 := hid_of hB
  have HLF := hid_of hlf
  rw [← hmem, ← hnd, ← hnf] at ⊢
  rw [← hnd] at HD hbd
  clear hd hf ho hB hlf hdl hnf hnd hmem
  have hk1 : Kept (fun _ => False) w ((w.alloc (.cells #[.int .i64 mem, .slice dao nd dc, .slice fao nf fc] 25)).alloc (.cells #[.int .i64 0, .slice none 0 0, .slice none 0 0] 25)) := ((Kept.refl _ _).alloc _).alloc _
  have hb1 : ((w.alloc (.cells #[.int .i64 mem, .slice dao nd dc, .slice fao nf fc] 25)).alloc (.cells #[.int .i64 0, .slice none 0 0, .slice none 0 0] 25)).heap[w.heap.size]? = some (.cells #[.int .i64 mem, .slice dao nd dc, .slice fao nf fc] 25 (0, 0)) := by
    rw [heap_alloc_old _ _ (by simp)]
    exact heap_alloc_new w _
  have hz1 := heap_alloc_new (w.alloc (.cells #[.int .i64 mem, .slice dao nd dc, .slice fao nf fc] 25)) (.cells #[.int .i64 0, .slice none 0 0, .slice none 0 0] 25)
  rw [show (w.alloc (.cells #[.int .i64 mem, .slice dao nd dc, .slice fao nf fc] 25)).heap.size = w.heap.size + 1 by simp] at hz1
  go_enter Tryz.func32, Tryz.ntmps32
  go_upto_region 1 with fail
  generalize (w.alloc (.cells #[.int .i64 mem, .slice dao nd dc, .slice fao nf fc] 25)).alloc (.cells #[.int .i64 0, .slice none 0 0, .slice none 0 0] 25) = w1 at *
  obtain ⟨gb, hgb⟩ : ∃ g, g = w.heap.size := ⟨_, rfl⟩
  rw [← hgb] at hb1 hz1 ⊢
  have HG1 : Hid (gb + 1 < w1.heap.size) := (Array.getElem?_eq_some_iff.1 hz1).1
  have HAP : Hid (∀ (W : World) (g8 : Nat), Kept (fun _ => False) w1 W → W.heap[g8]? = some (.cells #[] 5 (0, 0)) → w1.heap.size ≤ g8 → ∃ da' dc' wn, (Builtin.append_ #[22, 22] 22 #[.slice (some ⟨g8, 0, none⟩) 0 0, .slice dao nd dc]).run Tryz.prog W = .ok (.slice da' nd dc') wn ∧ wn.ownsRow w.heap.size 5 1 (.slice da' nd dc') nd (p.data.map (Value.int .u8)) ∧ Kept (fun k => k = g8) W wn) := fun W g8 hW hE hG => by
    obtain ⟨v', wn, hr, h2, h3⟩ := app_any W (.slice (some ⟨g8, 0, none⟩) 0 0) 0 w.heap.size [] 22 (.slice dao nd dc) p.data (own_emp hE (Nat.le_trans hk1.size hG)) (HD.out.kept (hk1.trans hW) (fun _ _ f => f)) (hk1.trans hW).size (by have := HND.out; omega)
    rw [Nat.zero_add, List.nil_append, ← HND.out] at h2
    obtain ⟨da', dc', rfl⟩ := ownsRow_shape h2
    exact ⟨da', dc', wn, hr, h2, (Kept.refl (fun k => k = g8) W).grown h3 (fun k hk => .inr (by simp [Value.ownBlock] at hk; exact hk.symm))⟩
  have HST : Hid (∀ (W : World) (g3 : Nat) (da' : Option Addr) (dc' : Nat), Kept (fun _ => False) w1 W → W.heap[g3]? = some (.cells #[.int .i64 0, .slice none 0 0, .slice none 0 0] 25 (0, 0)) → w1.heap.size ≤ g3 → W.ownsRow w.heap.size 5 1 (.slice da' nd dc') nd (p.data.map (Value.int .u8)) → RtK w (W.setRow g3 #[.int .i64 mem, .slice da' nd dc', .slice none 0 0]) gb g3 mem (.slice dao nd dc) (.slice fao nf fc) (.slice da' nd dc') (.slice none 0 0) p 0 []) := fun W g3 da' dc' hW h3 hG h4 => by
    have hkr := kept_row W g3 #[.int .i64 mem, .slice da' nd dc', .slice none 0 0]
    have h1 := HG1.out
    refine ⟨box_kept hkr (box_kept hW hb1 (fun f => f)) (by omega), box_kept hkr (box_kept hW hz1 (fun f => f)) (by omega), setRow_heap W g3 _ #[.int .i64 mem, .slice da' nd dc', .slice none 0 0] 25 (0, 0) h3, OwnF.nil _ _, ?_, (hk1.trans hW).step hkr (fun i hi e => by have := hk1.size; omega), ⟨hgb.symm, by omega⟩⟩
    rw [← HND.out]
    exact hkr.ownsRow h4 (fun q hq e => by subst e; exact own_box h4 h3 (by decide) hq)
  have HB1D : Hid (w1.drew.heap[gb]? = some (.cells #[.int .i64 mem, .slice dao nd dc, .slice fao nf fc] 25 (0, 0))) := hb1
  clear hk1 hb1 hz1 hgb hbd
  have hnfI : (nf : Int) ≤ 140737488351232 := by have := HLF.out; have := HNF.out; omega
  refine wp_region_held_drew (S := fun w' => w'.heap[gb]? = some (.cells #[.int .i64 mem, .slice dao nd dc, .slice fao nf fc] 25 (0, 0))) (by kernel_rfl) HB1D.out (fun hHeld => ?_)
  have hW : Kept (fun _ => False) w1 w1.drew := (Kept.refl _ _).drew
  clear HB1D
  generalize w1.drew = wd at *
  refine wpAnyH_take (i := 0) (v := ?_) rfl (by kernel_rfl) (by kernel_rfl) (by kernel_rfl) (fun _ _ _ h => h) (Or.inl ⟨by rfl, ?_⟩) (by assumption) ?_
  rotate_left 1
  · intro w hSw
    go_simp
    try with_reducible rfl
  try simp only [Act.put, List.getElem_toArray, List.getElem_cons_zero, List.getElem_cons_succ, List.setIfInBounds_toArray, List.set_cons_zero, List.set_cons_succ]
  refine wpAnyH_take (i := 1) (v := ?_) rfl (by kernel_rfl) (by kernel_rfl) (by kernel_rfl) (fun _ _ _ h => h) (Or.inl ⟨by rfl, ?_⟩) (by assumption) ?_
  rotate_left 1
  · intro w hSw
    have q0 := cell_block _ gb 0 _ _ _ hSw
    go_simp
    try with_reducible rfl
  try simp only [Act.put, List.getElem_toArray, List.getElem_cons_zero, List.getElem_cons_succ, List.setIfInBounds_toArray, List.set_cons_zero, List.set_cons_succ]
  refine wpAnyH_take (i := 3) (v := ?_) rfl (by kernel_rfl) (by kernel_rfl) (by kernel_rfl) (fun _ _ _ h => h) (Or.inl ⟨by rfl, ?_⟩) (by assumption) ?_
  rotate_left 1
  · intro w hSw
    go_simp
    try with_reducible rfl
  try simp only [Act.put, List.getElem_toArray, List.getElem_cons_zero, List.getElem_cons_succ, List.setIfInBounds_toArray, List.set_cons_zero, List.set_cons_succ]
  refine wpAnyH_take (i := 4) (v := ?_) rfl (by kernel_rfl) (by kernel_rfl) (by kernel_rfl) (fun _ _ _ h => h) (Or.inl ⟨by rfl, ?_⟩) (by assumption) ?_
  rotate_left 1
  · intro w hSw
    have q1 := cell_block _ gb 1 _ _ _ hSw
    go_simp
    try with_reducible rfl
  try simp only [Act.put, List.getElem_toArray, List.getElem_cons_zero, List.getElem_cons_succ, List.setIfInBounds_toArray, List.set_cons_zero, List.set_cons_succ]
  refine wpAnyH_ready (rs := [2, 7]) (by kernel_rfl) (by simp) ?_
  refine (AllReadyH.cons rfl (fun K hK => ?_) (AllReadyH.cons rfl (fun K hK => ?_) AllReadyH.nil))
  · go_simp
    refine hK.out _ _ (box_kept ((Kept.refl (fun _ => False) _).alloc _) hHeld (fun f => f)) (fun hHeld => ?_)
    clear hK K
    try simp only [Act.put, List.getElem_toArray, List.getElem_cons_zero, List.getElem_cons_succ, List.setIfInBounds_toArray, List.set_cons_zero, List.set_cons_succ]
    have hE := heap_alloc_new wd (.cells #[] 5)
    have hW2 := hW.alloc (.cells #[] 5)
    obtain ⟨g8, hg8⟩ : ∃ g, g = (wd).heap.size := ⟨_, rfl⟩
    rw [← hg8] at hE ⊢
    have hG8 : w1.heap.size ≤ g8 := by rw [hg8]; exact hW.size
    clear hW hg8
    generalize (wd).alloc (.cells #[] 5) = wa at *
    have hW := hW2
    clear hW2
    refine wpAnyH_ready (rs := [5, 7]) (by kernel_rfl) (by simp) ?_
    refine (AllReadyH.cons rfl (fun K hK => ?_) (AllReadyH.cons rfl (fun K hK => ?_) AllReadyH.nil))
    · obtain ⟨da', dc', wb, hr, ho', hk'⟩ := HAP.out wa g8 hW hE hG8
      refine stp_app rfl (.tmp 8) (.tmp 10) 22 22 rfl _ _ rfl rfl _ _ hr ?_
      refine hK.out _ _ (box_kept hk' hHeld (by have := HG1.out; omega)) (fun hHeld => ?_)
      clear hK K hr
      try simp only [Act.put, List.getElem_toArray, List.getElem_cons_zero, List.getElem_cons_succ, List.setIfInBounds_toArray, List.set_cons_zero, List.set_cons_succ]
      have hW2 := hW.step hk' (fun i hi e => by omega)
      clear hW hE
      have hW := hW2
      clear hW2
      refine wpAnyH_take (i := 6) (v := (.agg #[.int .i64 mem, .slice da' nd dc', .slice none 0 0])) rfl (by kernel_rfl) (by kernel_rfl) (by kernel_rfl) (fun _ _ _ h => h) (Or.inl ⟨by rfl, ?_⟩) (by assumption) ?_
      · intro w hSw
        go_simp
        try with_reducible rfl
      try simp only [Act.put, List.getElem_toArray, List.getElem_cons_zero, List.getElem_cons_succ, List.setIfInBounds_toArray, List.set_cons_zero, List.set_cons_succ]
      refine wpAnyH_ready (rs := [7]) (by kernel_rfl) (by simp) ?_
      refine (AllReadyH.cons rfl (fun K hK => ?_) AllReadyH.nil)
      go_simp
      refine hK.out _ _ (box_kept ((Kept.refl (fun _ => False) _).alloc _) hHeld (fun f => f)) (fun hHeld => ?_)
      clear hK K
      try simp only [Act.put, List.getElem_toArray, List.getElem_cons_zero, List.getElem_cons_succ, List.setIfInBounds_toArray, List.set_cons_zero, List.set_cons_succ]
      have h3 := heap_alloc_new wb (.cells #[.int .i64 0, .slice none 0 0, .slice none 0 0] 25)
      have hW2 := hW.alloc (.cells #[.int .i64 0, .slice none 0 0, .slice none 0 0] 25)
      obtain ⟨g3, hg3⟩ : ∃ g, g = (wb).heap.size := ⟨_, rfl⟩
      rw [← hg3] at h3 ⊢
      have hG3 : w1.heap.size ≤ g3 := by rw [hg3]; exact hW.size
      have ho2 := ((Kept.refl (fun _ => False) wb).alloc (.cells #[.int .i64 0, .slice none 0 0, .slice none 0 0] 25)).ownsRow ho' (fun _ _ f => f)
      clear ho'
      have ho' := ho2
      clear ho2
      clear hW hg3
      generalize (wb).alloc (.cells #[.int .i64 0, .slice none 0 0, .slice none 0 0] 25) = wc at *
      have hW := hW2
      clear hW2
      refine wpAnyH_ready (rs := [8]) (by kernel_rfl) (by simp) ?_
      refine (AllReadyH.cons rfl (fun K hK => ?_) AllReadyH.nil)
      refine stp_store_row rfl 25 _ _ rfl g3 #[.int .i64 mem, .slice da' nd dc', .slice none 0 0] rfl rfl 25 _ h3 size25p rfl (three_one _ _ _ rfl rfl rfl) ?_
      refine hK.out _ _ (box_kept (kept_row _ _ _) hHeld (by have := HG1.out; omega)) (fun hHeld => ?_)
      clear hK K
      try simp only [Act.put, List.getElem_toArray, List.getElem_cons_zero, List.getElem_cons_succ, List.setIfInBounds_toArray, List.set_cons_zero, List.set_cons_succ]
      have HT0 := hid_of (HST.out _ g3 _ _ hW h3 hG3 ho')
      clear h3 hW ho'
      refine wpAnyH_done (by kernel_rfl) ?_ _
      generalize (wc).setRow g3 #[.int .i64 mem, .slice da' nd dc', .slice none 0 0] = w5 at *
      go_wp2_with fail
      go_loopw [4] (fun i wr => ∃ (k : Nat) (fe : Option Addr) (fce : Nat) (cvs : List Value), k ≤ nf ∧ i = .int .i64 (k : Int) ∧ Hid (RtK w wr gb g3 mem (.slice dao nd dc) (.slice fao nf fc) (.slice da' nd dc') (.slice fe k fce) p k cvs)) (fun i _ => nf - (intOf i).toNat)
      case atStart => exact ⟨0, none, 0, [], by omega, rfl, HT0⟩
      case round =>
        obtain ⟨k, fe, fce, cvs, hk, rfl, HTK⟩ := hrel
        clear HT0
        have z2 := cell_block _ gb 2 _ _ _ HTK.out.box
        by_cases hlt : k < nf
        · have hltI : (k : Int) < (nf : Int) := by omega
          have hlk : k < p.fns.length := by rw [← HNF.out]; exact hlt
          obtain ⟨gf, fo, f, rfl, hgB, hfi, cv, hrg, hri, hrb⟩ := HF.out.at hlk
          obtain ⟨cao, cc, hcs⟩ := hri.shape
          obtain ⟨nc, hnc⟩ : ∃ n, n = f.code.length := ⟨_, rfl⟩
          rw [← hnc] at hcs
          subst hcs
          have hcr : ∀ j u, (f.cells (.slice cao nc cc))[j]? = some u → wr.cell? ⟨gf, fo + k * 4 + j, none⟩ = some u := fun j u hj => HTK.out.kept.cell (hrg j u hj) (fun f => f)
          obtain ⟨fa, hfa1⟩ : ∃ z, z = f.a := ⟨_, rfl⟩
          obtain ⟨fl, hfl1⟩ : ∃ z, z = f.l := ⟨_, rfl⟩
          obtain ⟨fr, hfr1⟩ : ∃ z, z = f.r := ⟨_, rfl⟩
          have x0 : wr.cell? ⟨gf, fo + k * 4, none⟩ = some (.int .i64 fa) := by rw [hfa1]; exact hcr 0 _ rfl
          have x1 : wr.cell? ⟨gf, fo + k * 4 + 1, none⟩ = some (.int .i64 fl) := by rw [hfl1]; exact hcr 1 _ rfl
          have x2 : wr.cell? ⟨gf, fo + k * 4 + 2, none⟩ = some (.int .i64 fr) := by rw [hfr1]; exact hcr 2 _ rfl
          have x3 : wr.cell? ⟨gf, fo + k * 4 + 3, none⟩ = some (.slice cao nc cc) := hcr 3 _ rfl
          have hkX : Kept (fun _ => False) wr (wr.alloc (.cells #[.int .i64 fa, .int .i64 fl, .int .i64 fr, .slice cao nc cc] 56)) := (Kept.refl _ _).alloc _
          have hX := heap_alloc_new wr (.cells #[.int .i64 fa, .int .i64 fl, .int .i64 fr, .slice cao nc cc] 56)
          have HRI := hid_of (hri.keptB (HTK.out.kept.trans hkX) (fun _ _ _ f => f))
          have hlc := (HO.out.fns f (List.mem_of_getElem? hfi)).len
          have HFI := hid_of hfi
          have HKX := hid_of hkX
          have HX := hid_of hX
          have HNC := hid_of hnc
          have HFA := hid_of (And.intro hfa1 (And.intro hfl1 hfr1))
          have HLC := hid_of hlc
          clear hri hrb hrg hcr hfa1 hfl1 hfr1 hnc hkX hX hfi hlc
          go_upto_region 6 with fail
          clear x0 x1 x2 x3
          generalize wr.alloc (.cells #[.int .i64 fa, .int .i64 fl, .int .i64 fr, .slice cao nc cc] 56) = w2 at *
          obtain ⟨gx, hgx⟩ : ∃ g, g = wr.heap.size := ⟨_, rfl⟩
          rw [← hgx] at HX ⊢
          have hkE : Kept (fun _ => False) w2 (w2.alloc (.cells #[] 64)) := (Kept.refl _ _).alloc _
          have hE := heap_alloc_new w2 (.cells #[] 64)
          have hX3 := box_kept hkE HX.out (fun f => f)
          have y3 := cell_block _ gx 3 _ _ _ hX3
          have hxl := (Array.getElem?_eq_some_iff.1 HX.out).1
          obtain ⟨no, ncc, w4, hr4, ho4, hk4⟩ := app_rows (w2.alloc (.cells #[] 64)) (.slice (some ⟨w2.heap.size, 0, none⟩) 0 0) wr.heap.size [] cao cc f.code (own_emp hE HKX.out.size) (by rw [← HNC.out]; exact HRI.out.kept hkE (fun _ _ f => f)) (Nat.le_trans HKX.out.size hkE.size) (by have := HLC.out; simp only [List.length_nil, Nat.zero_add]; omega) (fun e => by
            have h9 := HRI.out
            rw [e] at h9
            rcases h9 with ⟨e9, _⟩ | ⟨g, o, c', e9, _⟩
            · rw [e9]; rfl
            · cases e9)
          rw [List.nil_append, ← HNC.out] at hr4 ho4
          have hX4 := box_kept hk4 hX3 (by simp [Value.ownBlock]; omega)
          have s3 := cell_block _ gx 3 _ _ _ hX4
          have sf := frozen_block _ gx 3 _ _ hX4
          have hks := kept_set w4 gx 3 (.slice no nc ncc)
          have hX5 := set_block _ gx 3 _ _ _ hX4 (.slice no nc ncc)
          have hk5 : Kept (fun _ => False) wr (w4.setCell ⟨gx, 3, none⟩ (.slice no nc ncc)) := ((HKX.out.trans hkE).step hk4 (fun i hi e => by simp [Value.ownBlock] at e; have := HKX.out.size; omega)).step hks (fun i hi e => by omega)
          have ho5 := hks.ownsRow ho4 (fun q hq e => by subst e; exact own_box ho4 hX4 (by decide) hq)
          have HR4 := hid_of hr4
          obtain ⟨fv', w7, hr7, hb7, hN⟩ := HTK.out.next HFI.out hk5 (by rw [← HNC.out]; exact ho5) rfl (by have := HLF.out; omega)
          rw [← HFA.out.1, ← HFA.out.2.1, ← HFA.out.2.2] at hr7
          obtain ⟨fe', fce', hfe⟩ := ownsRow_shape hN.own.row
          rw [show (p.fns.take (k + 1)).length = k + 1 by rw [List.length_take]; omega] at hfe
          subst hfe
          have hblk5 := box_kept hk5 HTK.out.blk (fun f => f)
          have b2 := cell_block _ g3 2 _ _ _ hblk5
          have t2 := cell_block _ g3 2 _ _ _ hb7
          have tf := frozen_block _ g3 2 _ _ hb7
          have e0 := cell_block _ gx 0 _ _ _ hX5
          have e1 := cell_block _ gx 1 _ _ _ hX5
          have e2 := cell_block _ gx 2 _ _ _ hX5
          have e3 := cell_block _ gx 3 _ _ _ hX5
          have HR7 := hid_of hr7
          have HNX := hid_of hN
          clear hkE hE hX3 hxl hr4 ho4 hk4 hX4 hks hX5 hk5 ho5 hr7 hb7 hN hblk5 HTK HRI HKX HX hgx
          go_upto_region 7 with (at_builtin; refine wp_app rfl (.tmp 25) (.tmp 27) 54 54 rfl _ _ rfl rfl _ w4 HR4.out ?_)
          clear y3 s3 sf HR4
          generalize w4.setCell ⟨gx, 3, none⟩ (.slice no nc ncc) = w5 at *
          go_wp2_with (at_builtin; refine wp_app rfl (.tmp 31) (.tmp 33) 23 23 rfl _ _ rfl rfl _ w7 HR7.out ?_)
          go_roundw
          case rel => exact ⟨k + 1, _, _, _, by omega, by go_num, HNX⟩
          case measure => simp [intOf]; omega
        · have hnl : ¬ ((k : Int) < (nf : Int)) := by omega
          have hkn : k = nf := by omega
          subst hkn
          have HTN : Hid (RtK w wr gb g3 mem (.slice dao nd dc) (.slice fao k fc) (.slice da' nd dc') (.slice fe k fce) p p.fns.length cvs) := by unfold Hid; have h9 := HTK.out; rw [HNF.out] at h9 ⊢; exact h9
          have y0 := cell_block _ g3 0 _ _ _ HTN.out.blk
          have y1 := cell_block _ g3 1 _ _ _ HTN.out.blk
          have y2 := cell_block _ g3 2 _ _ _ HTN.out.blk
          have hz5 := HTN.out.res
          have hkr := kept_row wr (gb + 1) #[.int .i64 mem, .slice da' nd dc', .slice fe k fce]
          have HXR := hid_of (setRow_heap wr (gb + 1) _ #[.int .i64 mem, .slice da' nd dc', .slice fe k fce] 25 (0, 0) hz5)
          have HFIN : Hid (TwinR p w (.returned (.agg #[.int .i64 mem, .slice da' nd dc', .slice fe k fce])) (wr.setRow (gb + 1) #[.int .i64 mem, .slice da' nd dc', .slice fe k fce])) := by
            have h9 := HTN.out.done hkr
            exact ⟨⟨_, _, cvs, by rw [HMEM.out], h9.1⟩, h9.2⟩
          clear hkr HTK HTN
          go_wp2_with (refine wpList_store_row rfl 25 _ _ rfl (gb + 1) #[.int .i64 mem, .slice da' nd dc', .slice fe k fce] rfl rfl 25 _ hz5 size25p rfl (three_one _ _ _ rfl rfl rfl) ?_)
          refine bodyPost_ret (v := .agg #[.int .i64 mem, .slice da' nd dc', .slice fe k fce]) ?_ rfl HFIN.out
          exact results_cell_row (by rfl) _ _ (gb + 1) 25 _ (0, 0) _ (by rfl) HXR.out Tryz.underlying25 rfl size25p
    · go_simp
      refine hK.out _ _ (box_kept ((Kept.refl (fun _ => False) _).alloc _) hHeld (fun f => f)) (fun hHeld => ?_)
      clear hK K
      try simp only [Act.put, List.getElem_toArray, List.getElem_cons_zero, List.getElem_cons_succ, List.setIfInBounds_toArray, List.set_cons_zero, List.set_cons_succ]
      have h3 := heap_alloc_new wa (.cells #[.int .i64 0, .slice none 0 0, .slice none 0 0] 25)
      have hW2 := hW.alloc (.cells #[.int .i64 0, .slice none 0 0, .slice none 0 0] 25)
      obtain ⟨g3, hg3⟩ : ∃ g, g = (wa).heap.size := ⟨_, rfl⟩
      rw [← hg3] at h3 ⊢
      have hG3 : w1.heap.size ≤ g3 := by rw [hg3]; exact hW.size
      have hE2 := box_kept ((Kept.refl (fun _ => False) wa).alloc (.cells #[.int .i64 0, .slice none 0 0, .slice none 0 0] 25)) hE (fun f => f)
      have h83 : g8 ≠ g3 := by rw [hg3]; exact Nat.ne_of_lt (Array.getElem?_eq_some_iff.1 hE).1
      clear hE
      have hE := hE2
      clear hE2
      clear hW hg3
      generalize (wa).alloc (.cells #[.int .i64 0, .slice none 0 0, .slice none 0 0] 25) = wb at *
      have hW := hW2
      clear hW2
      refine wpAnyH_ready (rs := [5]) (by kernel_rfl) (by simp) ?_
      refine (AllReadyH.cons rfl (fun K hK => ?_) AllReadyH.nil)
      obtain ⟨da', dc', wc, hr, ho', hk'⟩ := HAP.out wb g8 hW hE hG8
      refine stp_app rfl (.tmp 8) (.tmp 10) 22 22 rfl _ _ rfl rfl _ _ hr ?_
      have h3' := box_kept hk' h3 (by omega)
      refine hK.out _ _ (box_kept hk' hHeld (by have := HG1.out; omega)) (fun hHeld => ?_)
      clear hK K hr
      try simp only [Act.put, List.getElem_toArray, List.getElem_cons_zero, List.getElem_cons_succ, List.setIfInBounds_toArray, List.set_cons_zero, List.set_cons_succ]
      have hW2 := hW.step hk' (fun i hi e => by omega)
      clear hW hE
      have hW := hW2
      clear hW2
      have h3 := h3'
      clear h3'
      refine wpAnyH_take (i := 6) (v := (.agg #[.int .i64 mem, .slice da' nd dc', .slice none 0 0])) rfl (by kernel_rfl) (by kernel_rfl) (by kernel_rfl) (fun _ _ _ h => h) (Or.inl ⟨by rfl, ?_⟩) (by assumption) ?_
      · intro w hSw
        go_simp
        try with_reducible rfl
      try simp only [Act.put, List.getElem_toArray, List.getElem_cons_zero, List.getElem_cons_succ, List.setIfInBounds_toArray, List.set_cons_zero, List.set_cons_succ]
      refine wpAnyH_ready (rs := [8]) (by kernel_rfl) (by simp) ?_
      refine (AllReadyH.cons rfl (fun K hK => ?_) AllReadyH.nil)
      refine stp_store_row rfl 25 _ _ rfl g3 #[.int .i64 mem, .slice da' nd dc', .slice none 0 0] rfl rfl 25 _ h3 size25p rfl (three_one _ _ _ rfl rfl rfl) ?_
      refine hK.out _ _ (box_kept (kept_row _ _ _) hHeld (by have := HG1.out; omega)) (fun hHeld => ?_)
      clear hK K
      try simp only [Act.put, List.getElem_toArray, List.getElem_cons_zero, List.getElem_cons_succ, List.setIfInBounds_toArray, List.set_cons_zero, List.set_cons_succ]
      have HT0 := hid_of (HST.out _ g3 _ _ hW h3 hG3 ho')
      clear h3 hW ho'
      refine wpAnyH_done (by kernel_rfl) ?_ _
      generalize (wc).setRow g3 #[.int .i64 mem, .slice da' nd dc', .slice none 0 0] = w5 at *
      go_wp2_with fail
      go_loopw [4] (fun i wr => ∃ (k : Nat) (fe : Option Addr) (fce : Nat) (cvs : List Value), k ≤ nf ∧ i = .int .i64 (k : Int) ∧ Hid (RtK w wr gb g3 mem (.slice dao nd dc) (.slice fao nf fc) (.slice da' nd dc') (.slice fe k fce) p k cvs)) (fun i _ => nf - (intOf i).toNat)
      case atStart => exact ⟨0, none, 0, [], by omega, rfl, HT0⟩
      case round =>
        obtain ⟨k, fe, fce, cvs, hk, rfl, HTK⟩ := hrel
        clear HT0
        have z2 := cell_block _ gb 2 _ _ _ HTK.out.box
        by_cases hlt : k < nf
        · have hltI : (k : Int) < (nf : Int) := by omega
          have hlk : k < p.fns.length := by rw [← HNF.out]; exact hlt
          obtain ⟨gf, fo, f, rfl, hgB, hfi, cv, hrg, hri, hrb⟩ := HF.out.at hlk
          obtain ⟨cao, cc, hcs⟩ := hri.shape
          obtain ⟨nc, hnc⟩ : ∃ n, n = f.code.length := ⟨_, rfl⟩
          rw [← hnc] at hcs
          subst hcs
          have hcr : ∀ j u, (f.cells (.slice cao nc cc))[j]? = some u → wr.cell? ⟨gf, fo + k * 4 + j, none⟩ = some u := fun j u hj => HTK.out.kept.cell (hrg j u hj) (fun f => f)
          obtain ⟨fa, hfa1⟩ : ∃ z, z = f.a := ⟨_, rfl⟩
          obtain ⟨fl, hfl1⟩ : ∃ z, z = f.l := ⟨_, rfl⟩
          obtain ⟨fr, hfr1⟩ : ∃ z, z = f.r := ⟨_, rfl⟩
          have x0 : wr.cell? ⟨gf, fo + k * 4, none⟩ = some (.int .i64 fa) := by rw [hfa1]; exact hcr 0 _ rfl
          have x1 : wr.cell? ⟨gf, fo + k * 4 + 1, none⟩ = some (.int .i64 fl) := by rw [hfl1]; exact hcr 1 _ rfl
          have x2 : wr.cell? ⟨gf, fo + k * 4 + 2, none⟩ = some (.int .i64 fr) := by rw [hfr1]; exact hcr 2 _ rfl
          have x3 : wr.cell? ⟨gf, fo + k * 4 + 3, none⟩ = some (.slice cao nc cc) := hcr 3 _ rfl
          have hkX : Kept (fun _ => False) wr (wr.alloc (.cells #[.int .i64 fa, .int .i64 fl, .int .i64 fr, .slice cao nc cc] 56)) := (Kept.refl _ _).alloc _
          have hX := heap_alloc_new wr (.cells #[.int .i64 fa, .int .i64 fl, .int .i64 fr, .slice cao nc cc] 56)
          have HRI := hid_of (hri.keptB (HTK.out.kept.trans hkX) (fun _ _ _ f => f))
          have hlc := (HO.out.fns f (List.mem_of_getElem? hfi)).len
          have HFI := hid_of hfi
          have HKX := hid_of hkX
          have HX := hid_of hX
          have HNC := hid_of hnc
          have HFA := hid_of (And.intro hfa1 (And.intro hfl1 hfr1))
          have HLC := hid_of hlc
          clear hri hrb hrg hcr hfa1 hfl1 hfr1 hnc hkX hX hfi hlc
          go_upto_region 6 with fail
          clear x0 x1 x2 x3
          generalize wr.alloc (.cells #[.int .i64 fa, .int .i64 fl, .int .i64 fr, .slice cao nc cc] 56) = w2 at *
          obtain ⟨gx, hgx⟩ : ∃ g, g = wr.heap.size := ⟨_, rfl⟩
          rw [← hgx] at HX ⊢
          have hkE : Kept (fun _ => False) w2 (w2.alloc (.cells #[] 64)) := (Kept.refl _ _).alloc _
          have hE := heap_alloc_new w2 (.cells #[] 64)
          have hX3 := box_kept hkE HX.out (fun f => f)
          have y3 := cell_block _ gx 3 _ _ _ hX3
          have hxl := (Array.getElem?_eq_some_iff.1 HX.out).1
          obtain ⟨no, ncc, w4, hr4, ho4, hk4⟩ := app_rows (w2.alloc (.cells #[] 64)) (.slice (some ⟨w2.heap.size, 0, none⟩) 0 0) wr.heap.size [] cao cc f.code (own_emp hE HKX.out.size) (by rw [← HNC.out]; exact HRI.out.kept hkE (fun _ _ f => f)) (Nat.le_trans HKX.out.size hkE.size) (by have := HLC.out; simp only [List.length_nil, Nat.zero_add]; omega) (fun e => by
            have h9 := HRI.out
            rw [e] at h9
            rcases h9 with ⟨e9, _⟩ | ⟨g, o, c', e9, _⟩
            · rw [e9]; rfl
            · cases e9)
          rw [List.nil_append, ← HNC.out] at hr4 ho4
          have hX4 := box_kept hk4 hX3 (by simp [Value.ownBlock]; omega)
          have s3 := cell_block _ gx 3 _ _ _ hX4
          have sf := frozen_block _ gx 3 _ _ hX4
          have hks := kept_set w4 gx 3 (.slice no nc ncc)
          have hX5 := set_block _ gx 3 _ _ _ hX4 (.slice no nc ncc)
          have hk5 : Kept (fun _ => False) wr (w4.setCell ⟨gx, 3, none⟩ (.slice no nc ncc)) := ((HKX.out.trans hkE).step hk4 (fun i hi e => by simp [Value.ownBlock] at e; have := HKX.out.size; omega)).step hks (fun i hi e => by omega)
          have ho5 := hks.ownsRow ho4 (fun q hq e => by subst e; exact own_box ho4 hX4 (by decide) hq)
          have HR4 := hid_of hr4
          obtain ⟨fv', w7, hr7, hb7, hN⟩ := HTK.out.next HFI.out hk5 (by rw [← HNC.out]; exact ho5) rfl (by have := HLF.out; omega)
          rw [← HFA.out.1, ← HFA.out.2.1, ← HFA.out.2.2] at hr7
          obtain ⟨fe', fce', hfe⟩ := ownsRow_shape hN.own.row
          rw [show (p.fns.take (k + 1)).length = k + 1 by rw [List.length_take]; omega] at hfe
          subst hfe
          have hblk5 := box_kept hk5 HTK.out.blk (fun f => f)
          have b2 := cell_block _ g3 2 _ _ _ hblk5
          have t2 := cell_block _ g3 2 _ _ _ hb7
          have tf := frozen_block _ g3 2 _ _ hb7
          have e0 := cell_block _ gx 0 _ _ _ hX5
          have e1 := cell_block _ gx 1 _ _ _ hX5
          have e2 := cell_block _ gx 2 _ _ _ hX5
          have e3 := cell_block _ gx 3 _ _ _ hX5
          have HR7 := hid_of hr7
          have HNX := hid_of hN
          clear hkE hE hX3 hxl hr4 ho4 hk4 hX4 hks hX5 hk5 ho5 hr7 hb7 hN hblk5 HTK HRI HKX HX hgx
          go_upto_region 7 with (at_builtin; refine wp_app rfl (.tmp 25) (.tmp 27) 54 54 rfl _ _ rfl rfl _ w4 HR4.out ?_)
          clear y3 s3 sf HR4
          generalize w4.setCell ⟨gx, 3, none⟩ (.slice no nc ncc) = w5 at *
          go_wp2_with (at_builtin; refine wp_app rfl (.tmp 31) (.tmp 33) 23 23 rfl _ _ rfl rfl _ w7 HR7.out ?_)
          go_roundw
          case rel => exact ⟨k + 1, _, _, _, by omega, by go_num, HNX⟩
          case measure => simp [intOf]; omega
        · have hnl : ¬ ((k : Int) < (nf : Int)) := by omega
          have hkn : k = nf := by omega
          subst hkn
          have HTN : Hid (RtK w wr gb g3 mem (.slice dao nd dc) (.slice fao k fc) (.slice da' nd dc') (.slice fe k fce) p p.fns.length cvs) := by unfold Hid; have h9 := HTK.out; rw [HNF.out] at h9 ⊢; exact h9
          have y0 := cell_block _ g3 0 _ _ _ HTN.out.blk
          have y1 := cell_block _ g3 1 _ _ _ HTN.out.blk
          have y2 := cell_block _ g3 2 _ _ _ HTN.out.blk
          have hz5 := HTN.out.res
          have hkr := kept_row wr (gb + 1) #[.int .i64 mem, .slice da' nd dc', .slice fe k fce]
          have HXR := hid_of (setRow_heap wr (gb + 1) _ #[.int .i64 mem, .slice da' nd dc', .slice fe k fce] 25 (0, 0) hz5)
          have HFIN : Hid (TwinR p w (.returned (.agg #[.int .i64 mem, .slice da' nd dc', .slice fe k fce])) (wr.setRow (gb + 1) #[.int .i64 mem, .slice da' nd dc', .slice fe k fce])) := by
            have h9 := HTN.out.done hkr
            exact ⟨⟨_, _, cvs, by rw [HMEM.out], h9.1⟩, h9.2⟩
          clear hkr HTK HTN
          go_wp2_with (refine wpList_store_row rfl 25 _ _ rfl (gb + 1) #[.int .i64 mem, .slice da' nd dc', .slice fe k fce] rfl rfl 25 _ hz5 size25p rfl (three_one _ _ _ rfl rfl rfl) ?_)
          refine bodyPost_ret (v := .agg #[.int .i64 mem, .slice da' nd dc', .slice fe k fce]) ?_ rfl HFIN.out
          exact results_cell_row (by rfl) _ _ (gb + 1) 25 _ (0, 0) _ (by rfl) HXR.out Tryz.underlying25 rfl size25p
  · go_simp
    refine hK.out _ _ (box_kept ((Kept.refl (fun _ => False) _).alloc _) hHeld (fun f => f)) (fun hHeld => ?_)
    clear hK K
    try simp only [Act.put, List.getElem_toArray, List.getElem_cons_zero, List.getElem_cons_succ, List.setIfInBounds_toArray, List.set_cons_zero, List.set_cons_succ]
    have h3 := heap_alloc_new wd (.cells #[.int .i64 0, .slice none 0 0, .slice none 0 0] 25)
    have hW2 := hW.alloc (.cells #[.int .i64 0, .slice none 0 0, .slice none 0 0] 25)
    obtain ⟨g3, hg3⟩ : ∃ g, g = (wd).heap.size := ⟨_, rfl⟩
    rw [← hg3] at h3 ⊢
    have hG3 : w1.heap.size ≤ g3 := by rw [hg3]; exact hW.size
    clear hW hg3
    generalize (wd).alloc (.cells #[.int .i64 0, .slice none 0 0, .slice none 0 0] 25) = wa at *
    have hW := hW2
    clear hW2
    refine wpAnyH_ready (rs := [2]) (by kernel_rfl) (by simp) ?_
    refine (AllReadyH.cons rfl (fun K hK => ?_) AllReadyH.nil)
    have h3a := h3
    go_simp
    refine hK.out _ _ (box_kept ((Kept.refl (fun _ => False) _).alloc _) hHeld (fun f => f)) (fun hHeld => ?_)
    clear hK K
    try simp only [Act.put, List.getElem_toArray, List.getElem_cons_zero, List.getElem_cons_succ, List.setIfInBounds_toArray, List.set_cons_zero, List.set_cons_succ]
    have hE := heap_alloc_new wa (.cells #[] 5)
    have hW2 := hW.alloc (.cells #[] 5)
    have h3b := box_kept ((Kept.refl (fun _ => False) wa).alloc (.cells #[] 5)) h3 (fun f => f)
    obtain ⟨g8, hg8⟩ : ∃ g, g = wa.heap.size := ⟨_, rfl⟩
    rw [← hg8] at hE ⊢
    have hG8 : w1.heap.size ≤ g8 := by rw [hg8]; exact hW.size
    have h83 : g8 ≠ g3 := by rw [hg8]; exact Ne.symm (Nat.ne_of_lt (Array.getElem?_eq_some_iff.1 h3).1)
    clear hW hg8 h3 h3a
    generalize wa.alloc (.cells #[] 5) = wb at *
    have hW := hW2
    have h3 := h3b
    clear hW2 h3b
    refine wpAnyH_ready (rs := [5]) (by kernel_rfl) (by simp) ?_
    refine (AllReadyH.cons rfl (fun K hK => ?_) AllReadyH.nil)
    obtain ⟨da', dc', wc, hr, ho', hk'⟩ := HAP.out wb g8 hW hE hG8
    refine stp_app rfl (.tmp 8) (.tmp 10) 22 22 rfl _ _ rfl rfl _ _ hr ?_
    have h3' := box_kept hk' h3 (by omega)
    refine hK.out _ _ (box_kept hk' hHeld (by have := HG1.out; omega)) (fun hHeld => ?_)
    clear hK K hr
    try simp only [Act.put, List.getElem_toArray, List.getElem_cons_zero, List.getElem_cons_succ, List.setIfInBounds_toArray, List.set_cons_zero, List.set_cons_succ]
    have hW2 := hW.step hk' (fun i hi e => by omega)
    clear hW hE
    have hW := hW2
    clear hW2
    have h3 := h3'
    clear h3'
    refine wpAnyH_take (i := 6) (v := (.agg #[.int .i64 mem, .slice da' nd dc', .slice none 0 0])) rfl (by kernel_rfl) (by kernel_rfl) (by kernel_rfl) (fun _ _ _ h => h) (Or.inl ⟨by rfl, ?_⟩) (by assumption) ?_
    · intro w hSw
      go_simp
      try with_reducible rfl
    try simp only [Act.put, List.getElem_toArray, List.getElem_cons_zero, List.getElem_cons_succ, List.setIfInBounds_toArray, List.set_cons_zero, List.set_cons_succ]
    refine wpAnyH_ready (rs := [8]) (by kernel_rfl) (by simp) ?_
    refine (AllReadyH.cons rfl (fun K hK => ?_) AllReadyH.nil)
    refine stp_store_row rfl 25 _ _ rfl g3 #[.int .i64 mem, .slice da' nd dc', .slice none 0 0] rfl rfl 25 _ h3 size25p rfl (three_one _ _ _ rfl rfl rfl) ?_
    refine hK.out _ _ (box_kept (kept_row _ _ _) hHeld (by have := HG1.out; omega)) (fun hHeld => ?_)
    clear hK K
    try simp only [Act.put, List.getElem_toArray, List.getElem_cons_zero, List.getElem_cons_succ, List.setIfInBounds_toArray, List.set_cons_zero, List.set_cons_succ]
    have HT0 := hid_of (HST.out _ g3 _ _ hW h3 hG3 ho')
    clear h3 hW ho'
    refine wpAnyH_done (by kernel_rfl) ?_ _
    generalize (wc).setRow g3 #[.int .i64 mem, .slice da' nd dc', .slice none 0 0] = w5 at *
    go_wp2_with fail
    go_loopw [4] (fun i wr => ∃ (k : Nat) (fe : Option Addr) (fce : Nat) (cvs : List Value), k ≤ nf ∧ i = .int .i64 (k : Int) ∧ Hid (RtK w wr gb g3 mem (.slice dao nd dc) (.slice fao nf fc) (.slice da' nd dc') (.slice fe k fce) p k cvs)) (fun i _ => nf - (intOf i).toNat)
    case atStart => exact ⟨0, none, 0, [], by omega, rfl, HT0⟩
    case round =>
      obtain ⟨k, fe, fce, cvs, hk, rfl, HTK⟩ := hrel
      clear HT0
      have z2 := cell_block _ gb 2 _ _ _ HTK.out.box
      by_cases hlt : k < nf
      · have hltI : (k : Int) < (nf : Int) := by omega
        have hlk : k < p.fns.length := by rw [← HNF.out]; exact hlt
        obtain ⟨gf, fo, f, rfl, hgB, hfi, cv, hrg, hri, hrb⟩ := HF.out.at hlk
        obtain ⟨cao, cc, hcs⟩ := hri.shape
        obtain ⟨nc, hnc⟩ : ∃ n, n = f.code.length := ⟨_, rfl⟩
        rw [← hnc] at hcs
        subst hcs
        have hcr : ∀ j u, (f.cells (.slice cao nc cc))[j]? = some u → wr.cell? ⟨gf, fo + k * 4 + j, none⟩ = some u := fun j u hj => HTK.out.kept.cell (hrg j u hj) (fun f => f)
        obtain ⟨fa, hfa1⟩ : ∃ z, z = f.a := ⟨_, rfl⟩
        obtain ⟨fl, hfl1⟩ : ∃ z, z = f.l := ⟨_, rfl⟩
        obtain ⟨fr, hfr1⟩ : ∃ z, z = f.r := ⟨_, rfl⟩
        have x0 : wr.cell? ⟨gf, fo + k * 4, none⟩ = some (.int .i64 fa) := by rw [hfa1]; exact hcr 0 _ rfl
        have x1 : wr.cell? ⟨gf, fo + k * 4 + 1, none⟩ = some (.int .i64 fl) := by rw [hfl1]; exact hcr 1 _ rfl
        have x2 : wr.cell? ⟨gf, fo + k * 4 + 2, none⟩ = some (.int .i64 fr) := by rw [hfr1]; exact hcr 2 _ rfl
        have x3 : wr.cell? ⟨gf, fo + k * 4 + 3, none⟩ = some (.slice cao nc cc) := hcr 3 _ rfl
        have hkX : Kept (fun _ => False) wr (wr.alloc (.cells #[.int .i64 fa, .int .i64 fl, .int .i64 fr, .slice cao nc cc] 56)) := (Kept.refl _ _).alloc _
        have hX := heap_alloc_new wr (.cells #[.int .i64 fa, .int .i64 fl, .int .i64 fr, .slice cao nc cc] 56)
        have HRI := hid_of (hri.keptB (HTK.out.kept.trans hkX) (fun _ _ _ f => f))
        have hlc := (HO.out.fns f (List.mem_of_getElem? hfi)).len
        have HFI := hid_of hfi
        have HKX := hid_of hkX
        have HX := hid_of hX
        have HNC := hid_of hnc
        have HFA := hid_of (And.intro hfa1 (And.intro hfl1 hfr1))
        have HLC := hid_of hlc
        clear hri hrb hrg hcr hfa1 hfl1 hfr1 hnc hkX hX hfi hlc
        go_upto_region 6 with fail
        clear x0 x1 x2 x3
        generalize wr.alloc (.cells #[.int .i64 fa, .int .i64 fl, .int .i64 fr, .slice cao nc cc] 56) = w2 at *
        obtain ⟨gx, hgx⟩ : ∃ g, g = wr.heap.size := ⟨_, rfl⟩
        rw [← hgx] at HX ⊢
        have hkE : Kept (fun _ => False) w2 (w2.alloc (.cells #[] 64)) := (Kept.refl _ _).alloc _
        have hE := heap_alloc_new w2 (.cells #[] 64)
        have hX3 := box_kept hkE HX.out (fun f => f)
        have y3 := cell_block _ gx 3 _ _ _ hX3
        have hxl := (Array.getElem?_eq_some_iff.1 HX.out).1
        obtain ⟨no, ncc, w4, hr4, ho4, hk4⟩ := app_rows (w2.alloc (.cells #[] 64)) (.slice (some ⟨w2.heap.size, 0, none⟩) 0 0) wr.heap.size [] cao cc f.code (own_emp hE HKX.out.size) (by rw [← HNC.out]; exact HRI.out.kept hkE (fun _ _ f => f)) (Nat.le_trans HKX.out.size hkE.size) (by have := HLC.out; simp only [List.length_nil, Nat.zero_add]; omega) (fun e => by
          have h9 := HRI.out
          rw [e] at h9
          rcases h9 with ⟨e9, _⟩ | ⟨g, o, c', e9, _⟩
          · rw [e9]; rfl
          · cases e9)
        rw [List.nil_append, ← HNC.out] at hr4 ho4
        have hX4 := box_kept hk4 hX3 (by simp [Value.ownBlock]; omega)
        have s3 := cell_block _ gx 3 _ _ _ hX4
        have sf := frozen_block _ gx 3 _ _ hX4
        have hks := kept_set w4 gx 3 (.slice no nc ncc)
        have hX5 := set_block _ gx 3 _ _ _ hX4 (.slice no nc ncc)
        have hk5 : Kept (fun _ => False) wr (w4.setCell ⟨gx, 3, none⟩ (.slice no nc ncc)) := ((HKX.out.trans hkE).step hk4 (fun i hi e => by simp [Value.ownBlock] at e; have := HKX.out.size; omega)).step hks (fun i hi e => by omega)
        have ho5 := hks.ownsRow ho4 (fun q hq e => by subst e; exact own_box ho4 hX4 (by decide) hq)
        have HR4 := hid_of hr4
        obtain ⟨fv', w7, hr7, hb7, hN⟩ := HTK.out.next HFI.out hk5 (by rw [← HNC.out]; exact ho5) rfl (by have := HLF.out; omega)
        rw [← HFA.out.1, ← HFA.out.2.1, ← HFA.out.2.2] at hr7
        obtain ⟨fe', fce', hfe⟩ := ownsRow_shape hN.own.row
        rw [show (p.fns.take (k + 1)).length = k + 1 by rw [List.length_take]; omega] at hfe
        subst hfe
        have hblk5 := box_kept hk5 HTK.out.blk (fun f => f)
        have b2 := cell_block _ g3 2 _ _ _ hblk5
        have t2 := cell_block _ g3 2 _ _ _ hb7
        have tf := frozen_block _ g3 2 _ _ hb7
        have e0 := cell_block _ gx 0 _ _ _ hX5
        have e1 := cell_block _ gx 1 _ _ _ hX5
        have e2 := cell_block _ gx 2 _ _ _ hX5
        have e3 := cell_block _ gx 3 _ _ _ hX5
        have HR7 := hid_of hr7
        have HNX := hid_of hN
        clear hkE hE hX3 hxl hr4 ho4 hk4 hX4 hks hX5 hk5 ho5 hr7 hb7 hN hblk5 HTK HRI HKX HX hgx
        go_upto_region 7 with (at_builtin; refine wp_app rfl (.tmp 25) (.tmp 27) 54 54 rfl _ _ rfl rfl _ w4 HR4.out ?_)
        clear y3 s3 sf HR4
        generalize w4.setCell ⟨gx, 3, none⟩ (.slice no nc ncc) = w5 at *
        go_wp2_with (at_builtin; refine wp_app rfl (.tmp 31) (.tmp 33) 23 23 rfl _ _ rfl rfl _ w7 HR7.out ?_)
        go_roundw
        case rel => exact ⟨k + 1, _, _, _, by omega, by go_num, HNX⟩
        case measure => simp [intOf]; omega
      · have hnl : ¬ ((k : Int) < (nf : Int)) := by omega
        have hkn : k = nf := by omega
        subst hkn
        have HTN : Hid (RtK w wr gb g3 mem (.slice dao nd dc) (.slice fao k fc) (.slice da' nd dc') (.slice fe k fce) p p.fns.length cvs) := by unfold Hid; have h9 := HTK.out; rw [HNF.out] at h9 ⊢; exact h9
        have y0 := cell_block _ g3 0 _ _ _ HTN.out.blk
        have y1 := cell_block _ g3 1 _ _ _ HTN.out.blk
        have y2 := cell_block _ g3 2 _ _ _ HTN.out.blk
        have hz5 := HTN.out.res
        have hkr := kept_row wr (gb + 1) #[.int .i64 mem, .slice da' nd dc', .slice fe k fce]
        have HXR := hid_of (setRow_heap wr (gb + 1) _ #[.int .i64 mem, .slice da' nd dc', .slice fe k fce] 25 (0, 0) hz5)
        have HFIN : Hid (TwinR p w (.returned (.agg #[.int .i64 mem, .slice da' nd dc', .slice fe k fce])) (wr.setRow (gb + 1) #[.int .i64 mem, .slice da' nd dc', .slice fe k fce])) := by
          have h9 := HTN.out.done hkr
          exact ⟨⟨_, _, cvs, by rw [HMEM.out], h9.1⟩, h9.2⟩
        clear hkr HTK HTN
        go_wp2_with (refine wpList_store_row rfl 25 _ _ rfl (gb + 1) #[.int .i64 mem, .slice da' nd dc', .slice fe k fce] rfl rfl 25 _ hz5 size25p rfl (three_one _ _ _ rfl rfl rfl) ?_)
        refine bodyPost_ret (v := .agg #[.int .i64 mem, .slice da' nd dc', .slice fe k fce]) ?_ rfl HFIN.out
        exact results_cell_row (by rfl) _ _ (gb + 1) 25 _ (0, 0) _ (by rfl) HXR.out Tryz.underlying25 rfl size25p
end Go.Proofs.YtcaadgcfceommaaGreat

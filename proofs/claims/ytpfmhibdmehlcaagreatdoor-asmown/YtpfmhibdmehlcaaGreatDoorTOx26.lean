import Derived.Test.YtpfmhibdmehlcaaGreatDoorTOx24
import Derived.Test.YtpfmhibdmehlcaaGreatDoorTOx25
namespace Go.Proofs.YtpfmhibdmehlcaaGreatDoor
open Go.RowKit
set_option linter.unusedVariables false
set_option linter.unusedSimpArgs false
set_option maxRecDepth 100000
variable {w0 w : World} {r gm : Nat} {R : Rdr} {NL : List (ByteArray × Int)} {dv fv lv wv : Value} {CV : List Value} {GM : List Nat}
def OthA (w w' : World) : Prop := ∀ (q : Nat) (cs : Array Value) (t : TypeId) (f : Nat × Nat), w.heap[q]? = some (.cells cs t f) → w'.heap[q]? = some (.cells cs t f)
theorem OthA.trans {a b c : World} (h : OthA a b) (k : OthA b c) : OthA a c := fun q cs t f hq => k q cs t f (h q cs t f hq)
theorem OthA.refl (w : World) : OthA w w := fun _ _ _ _ h => h
theorem OthA.othG {w w' : World} (h : OthA w w') : OthG w w' := fun q cs t hq _ => h q cs t (0, 0) hq
theorem Kept.othA {w w' : World} (h : Kept (fun _ => False) w w') : OthA w w' := fun q cs t f hq => box_kept h hq id
theorem MapIs.othA {w w' : World} {g : Nat} {L : List (ByteArray × Int)} (h : MapIs w g L) (hk : Kept (fun q => q = g) w w') : OthA w w' := fun q cs t' f hq => h.box hk hq
theorem own_is0 {w : World} {B e s : Nat} {v : Value} {n : Nat} {xs : List Value} (h : w.ownsRow B e s v n xs) (hn : 0 < n) : ∃ g c cs, v = .slice (some ⟨g, 0, none⟩) n c ∧ n ≤ c ∧ w.heap[g]? = some (.cells cs e (0, 0)) := by
 rcases h.2 with ⟨rfl, h0⟩ | ⟨g, cap, cur, rfl, _, hgg, hnc, _⟩
 ·omega
 ·exact ⟨g, cap, cur, rfl, hnc, hgg⟩
theorem snoc_of {α : Type} {l : List α} {n : Nat} (h : l.length = n + 1) : ∃ l' x, l = l' ++ [x] ∧ l'.length = n := by
 have hne : l ≠ [] := fun e => by rw [e] at h; simp at h
 refine ⟨l.dropLast, l.getLast hne, (List.dropLast_concat_getLast hne).symm, ?_⟩
 rw [List.length_dropLast, h]
 rfl
theorem RdX.parts (h : RdX w0 w r R dv fv lv wv gm CV GM) {gs : List Fnc} {f : Fnc} (hf : R.fs = gs ++ [f]) : ∃ cs cv ms gk, CV = cs ++ [cv] ∧ GM = ms ++ [gk] ∧ cs.length = gs.length ∧ ms.length = gs.length := by
 have hl : R.fs.length = gs.length + 1 := by rw [hf]; simp
 obtain ⟨cs, cv, h1, h2⟩ := snoc_of (h.toRdZ.clen.trans hl)
 obtain ⟨ms, gk, h3, h4⟩ := snoc_of (h.glen.trans hl)
 exact ⟨cs, cv, ms, gk, h1, h3, h2, h4⟩
theorem snoc_last {α : Type} (l : List α) (x : α) : (l ++ [x])[l.length]? = some x := by simp
theorem RdX.cells (h : RdX w0 w r R dv fv lv wv gm CV GM) {gs : List Fnc} {f : Fnc} (hf : R.fs = gs ++ [f]) {cs : List Value} {cv : Value} {ms : List Nat} {gk : Nat} (hc : CV = cs ++ [cv]) (hm : GM = ms ++ [gk]) (hcl : cs.length = gs.length) (hml : ms.length = gs.length) :
  ∃ fg fc lg lc, fv = .slice (some ⟨fg, 0, none⟩) (gs.length + 1) fc ∧ lv = .slice (some ⟨lg, 0, none⟩) (gs.length + 1) lc ∧ w.cell? ⟨fg, gs.length * 4 + 3, none⟩ = some cv ∧ w.cell? ⟨lg, gs.length, none⟩ = some (.map (some gk)) ∧ w.ownsRow w0.heap.size 48 2 cv f.code.length (icells f.code) ∧ MapIs w gk f.ls ∧
   (∃ cs', w.heap[fg]? = some (.cells cs' 51 (0, 0))) ∧ (∃ cs', w.heap[lg]? = some (.cells cs' 89 (0, 0))) := by
 have hl : R.fs.length = gs.length + 1 := by rw [hf]; simp
 have hF := h.fns
 have hM := h.mps
 rw [h.glen] at hM
 rw [hl] at hF hM
 obtain ⟨fg, fc, c1, rfl, _, h1⟩ := own_is0 hF (by omega)
 obtain ⟨lg, lc, c2, rfl, _, h2⟩ := own_is0 hM (by omega)
 refine ⟨fg, fc, lg, lc, rfl, rfl, ?_, ?_, ?_, ?_, ⟨c1, h1⟩, ⟨c2, h2⟩⟩
 ·have := hF.cells (g := fg) rfl (gs.length * 4 + 3) cv (by
   rw [hf, hc, fnCells_at (gs ++ [f]) (cs ++ [cv]) gs.length f cv (snoc_last _ _) (by rw [← hcl]; exact snoc_last _ _) 3 (by omega)]
   rfl)
  rw [Addr.add_lit, Nat.zero_add] at this
  exact this
 ·have := hM.cells (g := lg) rfl gs.length (.map (some gk)) (by
   rw [hm, List.map_append, ← hml]
   have := snoc_last (ms.map mpV) (mpV gk)
   rw [List.length_map] at this
   exact this)
  rw [Addr.add_lit, Nat.zero_add] at this
  exact this
 ·exact h.code.row gs.length cv (codX f) (by rw [hc, ← hcl]; exact snoc_last _ _) (by rw [hf, List.map_append]; have := snoc_last (gs.map codX) (codX f); rw [List.length_map] at this; exact this)
 ·exact h.maps gs.length gk f (by rw [hm, ← hml]; exact snoc_last _ _) (by rw [hf]; exact snoc_last _ _)
theorem RdX.label {w' : World} (h : RdX w0 w r R dv fv lv wv gm CV GM) {gs : List Fnc} {f : Fnc} (hf : R.fs = gs ++ [f]) {ms : List Nat} {gk : Nat} (hm : GM = ms ++ [gk]) (hml : ms.length = gs.length) (hk : Kept (fun q => q = gk) w w') {L : List (ByteArray × Int)} (hL : MapIs w' gk L) :
  RdX w0 w' r ⟨R.mem, R.sized, R.data, gs ++ [⟨f.nm, f.a, f.l, f.r, L, f.code⟩], R.ws⟩ dv fv lv wv gm CV GM ∧ OthA w w' := by
 have hmp : MapIs w gk f.ls := h.maps gs.length gk f (by rw [hm, ← hml]; exact snoc_last _ _) (by rw [hf]; exact snoc_last _ _)
 have hnd := h.nodup
 have hgk : gk ∈ GM := by rw [hm]; simp
 have hne : gm ≠ gk := fun e => (List.nodup_cons.1 hnd).1 (by rw [e]; exact hgk)
 have hnn : nmL 0 (gs ++ [(⟨f.nm, f.a, f.l, f.r, L, f.code⟩ : Fnc)]) = nmL 0 R.fs := nmL_same 0 _ _ (by rw [hf]; simp)
 have hlen : (gs ++ [(⟨f.nm, f.a, f.l, f.r, L, f.code⟩ : Fnc)]).length = R.fs.length := by rw [hf]; simp
 refine ⟨⟨⟨hmp.box hk h.box, hmp.own hk h.data, ?_, ?_, hmp.own hk h.mps, fun i g f' h1 h2 => ?_, ?_, h.nodup, h.newer, hmp.own hk h.wts, h.kept.step hk (fun q hq e => ?_), h.lo⟩, ?_⟩, hmp.othA hk⟩
 ·have := hmp.own hk h.fns
  show w'.ownsRow _ _ _ _ (gs ++ [_]).length (fnCells (gs ++ [_]) CV)
  have e : fnCells (gs ++ [(⟨f.nm, f.a, f.l, f.r, L, f.code⟩ : Fnc)]) CV = fnCells R.fs CV := fnCells_same _ _ CV (by rw [hf]; simp)
  rw [hlen, e]
  exact this
 ·have := hmp.fam hk h.code
  show Fam w' _ _ _ CV ((gs ++ [_]).map codX)
  rw [hf] at this
  rw [List.map_append] at this ⊢
  exact this
 ·by_cases hi : i < gs.length
  ·have h2' : (gs ++ [(⟨f.nm, f.a, f.l, f.r, L, f.code⟩ : Fnc)])[i]? = some f' := h2
   rw [List.getElem?_append_left hi] at h2'
   have hmi := h.maps i g f' h1 (by rw [hf, List.getElem?_append_left hi]; exact h2')
   refine hmi.other hk (fun e => ?_)
   have hgn := (List.nodup_cons.1 hnd).2
   rw [hm] at h1 hgn
   rw [List.getElem?_append_left (by omega)] at h1
   have h3 := (List.nodup_append.1 hgn).2.2 g (List.mem_of_getElem? h1) gk (by simp)
   exact h3 e
  ·have h0 : i = gs.length := by
    have := (List.getElem?_eq_some_iff.1 h1).1
    rw [hm, List.length_append, hml] at this
    simp at this
    omega
   subst h0
   have h2' : (gs ++ [(⟨f.nm, f.a, f.l, f.r, L, f.code⟩ : Fnc)])[gs.length]? = some f' := h2
   rw [snoc_last] at h2'
   rw [hm, ← hml, snoc_last] at h1
   cases h1
   cases h2'
   exact hL
 ·rw [hnn]
  exact h.names.other hk hne
 ·have := h.newer gk (List.mem_cons_of_mem _ hgk)
  omega
 ·exact h.glen.trans hlen.symm
def LabM (w0 w : World) (r : Nat) (R : Rdr) (gs : List Fnc) (o : Option Fnc) (e : Ending) (w' : World) : Prop :=
 Kept (fun _ => False) w0 w' ∧ ((∃ f', o = some f' ∧ e = .returned (.bool true) ∧ RdG w0 w' r ⟨R.mem, R.sized, R.data, gs ++ [f'], R.ws⟩ ∧ OthA w w') ∨ (o = none ∧ e = .returned (.bool false)))
set_option maxHeartbeats 16000000 in
theorem labelG (B : Nat) (v : Value) (ls : List ByteArray) (gs : List Fnc) (f : Fnc) (hfs : R.fs = gs ++ [f]) (h : RdG w0 w r R) (hv : w.ownsRow B 9 1 v ls.length (labs ls)) (hl : gs.length ≤ 80000) (hll : ls.length ≤ 90000) (hcl : f.code.length ≤ 90000) :
  Calls Tryz.prog 77 #[.pointer (some ⟨r, 0, none⟩), v] w (LabM w0 w r R gs (labF f ls)) := by
 obtain ⟨va, vc, hvv⟩ := ownsRow_shape hv
 obtain ⟨n, hn⟩ := nmd (ls.length)
 rw [← hn] at hvv
 have HV := hid_of hv
 have HN := hid_of hn
 have HG0 : Hid (RdG w0 w r ⟨R.mem, R.sized, R.data, gs ++ [f], R.ws⟩) := by
  show RdG w0 w r ⟨R.mem, R.sized, R.data, gs ++ [f], R.ws⟩
  rw [← hfs]
  exact h
 have HKW : Hid (Kept (fun _ => False) w0 w) := by
  obtain ⟨_, _, _, _, _, _, _, hX⟩ := h
  exact hX.kept
 have hnI : (n : Int) ≤ 90000 := by omega
 have HLI : Hid (∀ (i : Nat) (hi : i < ls.length) (W : World), OthA w W → ∃ g, va = some ⟨g, 0, none⟩ ∧ W.cell? ⟨g, i, none⟩ = some (.string (ls[i]'hi))) := fun i hi W hW => by
  obtain ⟨g, c, cs, e1, e2, e3⟩ := own_is0 hv (by omega)
  rw [hvv] at e1
  cases e1
  refine ⟨g, rfl, ?_⟩
  have hc := hv.cells (g := g) (by rw [hvv]; rfl) i (.string (ls[i]'hi)) (by unfold labs; rw [List.getElem?_map, List.getElem?_eq_getElem hi]; rfl)
  rw [Addr.add_lit, Nat.zero_add] at hc
  have e4 := hW g cs 9 _ e3
  have e5 := cell_block _ _ i _ _ _ e3
  rw [hc] at e5
  rw [cell_block _ _ i _ _ _ e4]
  exact e5.symm
 obtain ⟨o, ho⟩ := nmd (labF f ls)
 rw [← ho]
 have HF0 : Hid (o = labF f (ls.drop 0)) := by show o = _; rw [ho]; rfl
 have HGSL : Hid (gs.length ≤ 80000 ∧ f.code.length ≤ 90000) := ⟨hl, hcl⟩
 subst hvv
 clear h hv hn ho hfs hl hll hcl
 go_enter Tryz.func77, Tryz.ntmps77
 go_wp2
 go_loopw [9] (fun iv wr => ∃ (i : Nat) (f' : Fnc), iv = .int .i64 (i : Int) ∧ i ≤ n ∧ Hid (RdG w0 wr r ⟨R.mem, R.sized, R.data, gs ++ [f'], R.ws⟩) ∧ Hid (o = labF f' (ls.drop i)) ∧ Hid (f'.code = f.code) ∧ Hid (OthA w wr)) (fun iv _ => n - (intOf iv).toNat)
 case atStart => exact ⟨0, f, rfl, Nat.zero_le _, HG0, HF0, rfl, OthA.refl w⟩
 case round =>
  clear HG0 HF0 HKW
  obtain ⟨i, f', rfl, hin, HGR, HFR, HCR, HOR⟩ := hrel
  by_cases hlt : i < n
  ·have hil : i < ls.length := by have := HN.out; omega
   have hltI : (i : Int) < (n : Int) := by omega
   obtain ⟨g, rfl, q0⟩ := HLI.out i hil wr HOR.out
   obtain ⟨s, hs⟩ := nmd (ls[i]'hil)
   rw [← hs] at q0
   have HD : Hid (o = labF f' (s :: ls.drop (i + 1))) := by
    show o = _
    rw [HFR.out, List.drop_eq_getElem_cons hil, hs]
   clear hs hil HFR
   go_upto_region 4 with fail
   have hkd : Kept (fun _ => False) wr wr.drew := (Kept.refl _ _).drew
   have HOD := hid_of (HOR.out.trans (Kept.othA hkd))
   obtain ⟨dv, fv, lv, wv, gm, CV, GM, hX0⟩ := HGR.out
   have HX := hid_of (hX0.same hkd)
   clear hkd q0 hX0 HGR HOR
   obtain ⟨cs, cv, ms, gk, hcc, hmm, hc1, hm1⟩ := HX.out.parts (gs := gs) (f := f') rfl
   obtain ⟨fg, fc, lg, lc, hfv, hlv, x1, x2, hco, hmp, hb1, hb2⟩ := HX.out.cells (gs := gs) (f := f') rfl hcc hmm hc1 hm1
   obtain ⟨cb1, hb1⟩ := hb1
   obtain ⟨cb2, hb2⟩ := hb2
   obtain ⟨ca, cc, hcv⟩ := ownsRow_shape hco
   obtain ⟨nc, hnc⟩ := nmd (f'.code.length)
   have HNC : Hid (nc ≤ 90000 ∧ nc = f'.code.length) := ⟨by rw [hnc, HCR.out]; exact HGSL.out.2, hnc⟩
   rw [← hnc] at hcv
   have HMP := hid_of hmp
   have hr0 := HX.out.box
   refine wp_region_held_drew (S := fun w' => Kept (fun q => q = gk) wr.drew w') (by kernel_rfl) (Kept.refl _ _) (fun hHeld => ?_)
   generalize wr.drew = wd at *
   have HSM : Hid (∀ w', Kept (fun q => q = gk) wd w' → w'.cell? ⟨r, 5, none⟩ = some lv ∧ w'.cell? ⟨r, 2, none⟩ = some fv ∧ w'.cell? ⟨lg, gs.length, none⟩ = some (.map (some gk)) ∧ w'.cell? ⟨fg, gs.length * 4 + 3, none⟩ = some cv) := fun w' hw =>
    ⟨hw.cell (cell_block _ _ 5 _ _ _ hr0) (hmp.not_box hr0), hw.cell (cell_block _ _ 2 _ _ _ hr0) (hmp.not_box hr0), hw.cell x2 (hmp.not_box hb2), hw.cell x1 (hmp.not_box hb1)⟩
   have HLA := hid_of (lastG HX.out.toRdZ gs f' rfl (by have := HGSL.out.1; omega))
   have HMM : Hid (GM = ms ++ [gk] ∧ ms.length = gs.length) := ⟨hmm, hm1⟩
   obtain ⟨m, hm⟩ := nmd (gs.length)
   rw [← hm] at HSM HLA hfv hlv
   obtain ⟨mm, hmm2⟩ := nmd (m + 1)
   rw [← hmm2] at hfv hlv
   have hmI : (m : Int) < (mm : Int) := by omega
   have hmB : (m : Int) ≤ 80000 := by have := HGSL.out.1; omega
   subst hfv hlv hcv
   clear hr0 hmp hb1 hb2 hco x1 x2 hcc hmm hc1 hm1 hnc hm hmm2
   by_cases hnm : (lkA f'.ls s).isSome = true
   ·have HON : Hid (o = none) := by
     show o = none
     rw [HD.out, labF, if_pos hnm]
    have HNA := hid_of (name_old gk s (nc : Int) f'.ls HMP.out hnm)
    clear hnm HD
    iterate 4
     refine tkn (v := ?_) 0 rfl ?_ ?_; rotate_left 1
     ·intro w hSw; obtain ⟨s0, s1, s2, s3⟩ := HSM.out w hSw; go_simp; try with_reducible rfl
     try simp only [Act.put, tdy]
    iterate 1
     refine tkn (v := ?_) 4 rfl ?_ ?_; rotate_left 1
     ·intro w hSw; go_simp; try with_reducible rfl
     try simp only [Act.put, tdy]
    iterate 2
     refine tkn (v := ?_) 8 rfl ?_ ?_; rotate_left 1
     ·intro w hSw; go_simp; try with_reducible rfl
     try simp only [Act.put, tdy]
    iterate 1
     refine tkn (v := ?_) 10 rfl ?_ ?_; rotate_left 1
     ·intro w hSw; go_simp; try with_reducible rfl
     try simp only [Act.put, tdy]
    iterate 3
     refine tkn (v := ?_) 11 rfl ?_ ?_; rotate_left 1
     ·intro w hSw; obtain ⟨s0, s1, s2, s3⟩ := HSM.out w hSw; go_simp; try with_reducible rfl
     try simp only [Act.put, tdy]
    iterate 1
     refine tkn (v := ?_) 14 rfl ?_ ?_; rotate_left 1
     ·intro w hSw; go_simp; try with_reducible rfl
     try simp only [Act.put, tdy]
    refine rdy 5 rfl (fun K hK => ?_)
    go_simp
    refine HLA.out.mono ?_
    rintro e w4 ⟨rfl, hw⟩
    have hw := hw.symm
    subst hw
    refine hK.out _ _ hHeld (fun hHeld => ?_)
    clear hK K
    try simp only [Act.put, tdy]
    iterate 2
     refine tkn (v := ?_) 6 rfl ?_ ?_; rotate_left 1
     ·intro w hSw; obtain ⟨s0, s1, s2, s3⟩ := HSM.out w hSw; go_simp; try with_reducible rfl
     try simp only [Act.put, tdy]
    refine rdy 15 rfl (fun K hK => ?_)
    go_simp
    refine HLA.out.mono ?_
    rintro e w4 ⟨rfl, hw⟩
    have hw := hw.symm
    subst hw
    refine hK.out _ _ hHeld (fun hHeld => ?_)
    clear hK K
    try simp only [Act.put, tdy]
    iterate 4
     refine tkn (v := ?_) 16 rfl ?_ ?_; rotate_left 1
     ·intro w hSw; obtain ⟨s0, s1, s2, s3⟩ := HSM.out w hSw; go_simp; try with_reducible rfl
     try simp only [Act.put, tdy]
    refine rdy 20 rfl (fun K hK => ?_)
    go_simp
    refine HNA.out.mono ?_
    rintro e w4 ⟨rfl, hw⟩
    have hw := hw.symm
    subst hw
    refine hK.out _ _ hHeld (fun hHeld => ?_)
    clear hK K
    try simp only [Act.put, tdy]
    iterate 1
     refine tkn (v := ?_) 21 rfl ?_ ?_; rotate_left 1
     ·intro w hSw; go_simp; try with_reducible rfl
     try simp only [Act.put, tdy]
    refine wpAnyH_done (by kernel_rfl) ?_ _
    go_wp2
    go_ret
    exact ⟨HX.out.kept, .inr ⟨HON.out, rfl⟩⟩
   ·have hno : lkA f'.ls s = none := by simpa using hnm
    have HDN : Hid (o = labF ⟨f'.nm, f'.a, f'.l, f'.r, f'.ls ++ [(s, (nc : Int))], f'.code⟩ (ls.drop (i + 1))) := by
     show o = _
     rw [HD.out, labF, if_neg hnm, HNC.out.2]
    have HNA := hid_of (name_newG gk s (nc : Int) f'.ls HMP.out hno)
    clear hnm hno HD
    iterate 4
     refine tkn (v := ?_) 0 rfl ?_ ?_; rotate_left 1
     ·intro w hSw; obtain ⟨s0, s1, s2, s3⟩ := HSM.out w hSw; go_simp; try with_reducible rfl
     try simp only [Act.put, tdy]
    iterate 1
     refine tkn (v := ?_) 4 rfl ?_ ?_; rotate_left 1
     ·intro w hSw; go_simp; try with_reducible rfl
     try simp only [Act.put, tdy]
    iterate 2
     refine tkn (v := ?_) 8 rfl ?_ ?_; rotate_left 1
     ·intro w hSw; go_simp; try with_reducible rfl
     try simp only [Act.put, tdy]
    iterate 1
     refine tkn (v := ?_) 10 rfl ?_ ?_; rotate_left 1
     ·intro w hSw; go_simp; try with_reducible rfl
     try simp only [Act.put, tdy]
    iterate 3
     refine tkn (v := ?_) 11 rfl ?_ ?_; rotate_left 1
     ·intro w hSw; obtain ⟨s0, s1, s2, s3⟩ := HSM.out w hSw; go_simp; try with_reducible rfl
     try simp only [Act.put, tdy]
    iterate 1
     refine tkn (v := ?_) 14 rfl ?_ ?_; rotate_left 1
     ·intro w hSw; go_simp; try with_reducible rfl
     try simp only [Act.put, tdy]
    refine rdy 5 rfl (fun K hK => ?_)
    go_simp
    refine HLA.out.mono ?_
    rintro e w4 ⟨rfl, hw⟩
    have hw := hw.symm
    subst hw
    refine hK.out _ _ hHeld (fun hHeld => ?_)
    clear hK K
    try simp only [Act.put, tdy]
    iterate 2
     refine tkn (v := ?_) 6 rfl ?_ ?_; rotate_left 1
     ·intro w hSw; obtain ⟨s0, s1, s2, s3⟩ := HSM.out w hSw; go_simp; try with_reducible rfl
     try simp only [Act.put, tdy]
    refine rdy 15 rfl (fun K hK => ?_)
    go_simp
    refine HLA.out.mono ?_
    rintro e w4 ⟨rfl, hw⟩
    have hw := hw.symm
    subst hw
    refine hK.out _ _ hHeld (fun hHeld => ?_)
    clear hK K
    try simp only [Act.put, tdy]
    iterate 4
     refine tkn (v := ?_) 16 rfl ?_ ?_; rotate_left 1
     ·intro w hSw; obtain ⟨s0, s1, s2, s3⟩ := HSM.out w hSw; go_simp; try with_reducible rfl
     try simp only [Act.put, tdy]
    refine rdy 20 rfl (fun K hK => ?_)
    go_simp
    refine HNA.out.mono ?_
    rintro e w4 ⟨rfl, hk4, hm4⟩
    refine hK.out _ _ hk4 (fun hHeld => ?_)
    clear hK K
    try simp only [Act.put, tdy]
    iterate 1
     refine tkn (v := ?_) 21 rfl ?_ ?_; rotate_left 1
     ·intro w hSw; go_simp; try with_reducible rfl
     try simp only [Act.put, tdy]
    refine wpAnyH_done (by kernel_rfl) ?_ _
    obtain ⟨hX5, hO5⟩ := HX.out.label (gs := gs) (f := f') rfl HMM.out.1 HMM.out.2 hk4 hm4
    have HG5 : Hid (RdG w0 w4 r ⟨R.mem, R.sized, R.data, gs ++ [⟨f'.nm, f'.a, f'.l, f'.r, f'.ls ++ [(s, (nc : Int))], f'.code⟩], R.ws⟩) := ⟨_, _, _, _, _, _, _, hX5⟩
    have HO5 := hid_of (HOD.out.trans hO5)
    clear hX5 hO5 hk4 hm4 HX HSM HMP HNA HLA hHeld
    go_wp2
    go_roundw
    case rel => exact ⟨i + 1, _, by go_num, by omega, HG5, HDN, HCR, HO5⟩
    case measure => simp [intOf]; omega
  ·have hlt' : ¬ (i : Int) < (n : Int) := by omega
   have HE : Hid (o = some f') := by
    show o = _
    have := HFR.out
    rw [List.drop_of_length_le (by have := HN.out; omega)] at this
    exact this
   clear HFR
   go_wp2
   go_ret
   obtain ⟨_, _, _, _, _, _, _, hX⟩ := HGR.out
   exact ⟨hX.kept, .inl ⟨f', HE.out, rfl, HGR.out, HOR.out⟩⟩
end Go.Proofs.YtpfmhibdmehlcaaGreatDoor
namespace Go.Proofs.YtpfmhibdmehlcaaGreatDoor
open Go.RowKit
set_option linter.unusedVariables false
set_option linter.unusedSimpArgs false
set_option maxRecDepth 100000
variable {w0 w : World} {r gm : Nat} {R : Rdr} {NL : List (ByteArray × Int)} {dv fv lv wv : Value} {CV : List Value} {GM : List Nat}
theorem Tryz.info130 : (Tryz.prog.info? 130).map (fun i => (i.zero, i.size, i.bytes)) = some (some (.agg #[.int .i64 0, .int .i64 0, .int .i64 0, .string ⟨#[]⟩, .map none]), 5, 48) := by kernel_rfl
theorem push_wt {w0 W : World} {v : Value} {k : Nat} {xs : List Value} (h : W.ownsRow w0.heap.size 130 5 v k xs) (x0 x1 x2 x3 x4 : Value) (h0 : x0.oneCell' = true) (h1 : x1.oneCell' = true) (h2 : x2.oneCell' = true) (h3 : x3.oneCell' = true) (h4' : x4.oneCell' = true) (hk : Kept (fun _ => False) w0 W) (hl : k ≤ 90000) :
  ∃ v' w', (Builtin.append_ #[91, 91] 91 #[v, .slice (some ⟨W.heap.size, 0, none⟩) 1 1]).run Tryz.prog (W.alloc (.cells #[x0, x1, x2, x3, x4] 130)) = .ok v' w' ∧ w'.ownsRow w0.heap.size 130 5 v' (k + 1) (xs ++ [x0, x1, x2, x3, x4]) ∧ Kept (fun _ => False) w0 w' ∧ Kept (fun q => v.ownBlock = some q) W w' ∧ NewB W v v' := by
 obtain ⟨i0, hi, hz0, hz1, hz2⟩ := info_parts Tryz.info130
 obtain ⟨v', w', hr, h2', h3', h4, _⟩ := append_old (P := Tryz.prog) (W.alloc (.cells #[x0, x1, x2, x3, x4] 130)) w0.heap.size 91 91 130 i0 _ 5 48 Tryz.underlying91 hi hz0 hz1 hz2 rfl (by decide) v k xs (h.alloc _) ⟨W.heap.size, 0, none⟩ 1 1 [x0, x1, x2, x3, x4] (by simp) (fun j u hj => by
  have hjl := (List.getElem?_eq_some_iff.1 hj).1
  rw [Addr.add_lit, Nat.zero_add, cell_block _ _ _ _ _ _ (heap_alloc_new W _)]
  simpa using hj) (fun u hu => by
   simp at hu
   rcases hu with rfl | rfl | rfl | rfl | rfl <;> assumption) (by unfold maxLen; omega) (by omega) (by have := hk.size; simp; omega)
 have hk1 : Kept (fun k => v.ownBlock = some k) W w' := ((Kept.refl _ W).alloc _).grown h3' (fun k hk => .inr hk)
 exact ⟨v', w', hr, h2', hk.step hk1 (fun i hi e => by have := (h.lt i e).1; omega), hk1, by simpa [NewB] using h4⟩
theorem built135 (ln f p : Int) (s : ByteArray) (m : Nat) : Tryz.prog.built 130 [(0, .int .i64 ln), (1, .agg #[.int .i64 f, .int .i64 p]), (2, .string s), (3, .map (some m))] = some #[.int .i64 ln, .int .i64 f, .int .i64 p, .string s, .map (some m)] := by kernel_rfl
theorem run135 (w : World) (ln f p : Int) (s : ByteArray) (m : Nat) : (Instr.build 130 #[(0, .int .i64 ln), (1, .agg #[.int .i64 f, .int .i64 p]), (2, .string s), (3, .map (some m))]).run Tryz.prog w = .ok (.agg #[.int .i64 ln, .int .i64 f, .int .i64 p, .string s, .map (some m)]) w :=
 run_build w 130 _ _ (built135 ln f p s m)
theorem exec135 (ev : Operand → Value) (oi : Oper) (w : World) (ln f p : Int) (s : ByteArray) (m : Nat) (o0 o1 o2 o3 : Operand) (ho : oi.op = .build 130 #[(0, o0), (1, o1), (2, o2), (3, o3)]) (h0 : ev o0 = .int .i64 ln) (h1 : ev o1 = .agg #[.int .i64 f, .int .i64 p]) (h2 : ev o2 = .string s) (h3 : ev o3 = .map (some m)) :
  Sem.run Tryz.prog (execOp ev oi) w = Result.ok (Next.value (.agg #[.int .i64 ln, .int .i64 f, .int .i64 p, .string s, .map (some m)])) w := by
 have hr := run135 w ln f p s m
 unfold execOp
 simp only [ho, List.map_toArray, List.map_cons, List.map_nil, h0, h1, h2, h3, Sem.run_bind, hr, Result.andThen_ok, Sem.run_pure]
theorem RdX.pushW (h : RdX w0 w r R dv fv lv wv gm CV GM) (x : Wt) (hn : R.ws.length ≤ 90000) :
  ∃ a m c w5, (Builtin.append_ #[91, 91] 91 #[wv, .slice (some ⟨w.heap.size, 0, none⟩) 1 1]).run Tryz.prog (w.alloc (.cells #[.int .i64 x.ln, .int .i64 (x.fn : Int), .int .i64 (x.pl : Int), .string x.nm, .map (some (wtM gm GM x))] 130)) = .ok (.slice a m c) w5 ∧ Kept (fun q => wv.ownBlock = some q) w w5 ∧ OthG w w5 ∧
   w5.heap[r]? = some (.cells #[.int .i64 R.mem, dv, fv, .bool R.sized, .map (some gm), lv, wv] 93 (0, 0)) ∧
   RdX w0 (w5.setCell ⟨r, 6, none⟩ (.slice a m c)) r ⟨R.mem, R.sized, R.data, R.fs, R.ws ++ [x]⟩ dv fv lv (.slice a m c) gm CV GM ∧ OthG w5 (w5.setCell ⟨r, 6, none⟩ (.slice a m c)) := by
 obtain ⟨v', w5, hr, ho, hk0, hk1, hnb⟩ := push_wt h.wts (.int .i64 x.ln) (.int .i64 (x.fn : Int)) (.int .i64 (x.pl : Int)) (.string x.nm) (.map (some (wtM gm GM x))) rfl rfl rfl rfl rfl h.kept hn
 obtain ⟨a, c, hv⟩ := ownsRow_shape ho
 have hch := own_is h.wts
 have hy : RdY w0 w5 ⟨R.mem, R.sized, R.data, R.fs, R.ws ++ [x]⟩ (nmL 0 R.fs) dv fv lv v' gm CV GM := by
  refine ⟨own_ch hk1 hch h.data (by decide), own_ch hk1 hch h.fns (by decide), h.code.ch hk1 hch (by decide), own_ch hk1 hch h.mps (by decide), fun i g f' h1 h2 => (h.maps i g f' h1 h2).ch hk1 hch, h.names.ch hk1 hch, h.nodup, h.newer, ?_⟩
  show w5.ownsRow _ _ _ _ (R.ws ++ [x]).length (wtCells gm GM (R.ws ++ [x]))
  rw [wtCells_snoc, List.length_append]
  exact ho
 obtain ⟨h5, h6, h7, h8⟩ := h.toRdZ.store hk1 hch (by decide) (fun q hq => (h.wts.lt q hq).1) hy 6 v' rfl
 subst hv
 exact ⟨_, _, _, w5, hr, hk1, h5, h6, ⟨h7, h.glen⟩, h8⟩
theorem set_last {α : Type} (l : List α) (x y : α) : (l ++ [x]).set l.length y = l ++ [y] := by simp
theorem icells_snoc (ys : List IN) (op a : Int) : icells (ys ++ [⟨op, a⟩]) = icells ys ++ [.int .i64 op, .int .i64 a] := by simp [icells, IN.cells]
theorem RdX.pushC (h : RdX w0 w r R dv fv lv wv gm CV GM) {gs : List Fnc} {f : Fnc} (hf : R.fs = gs ++ [f]) {cs : List Value} {cv : Value} (hc : CV = cs ++ [cv]) (hcl : cs.length = gs.length) (fg fn fc : Nat) (hfv : fv = .slice (some ⟨fg, 0, none⟩) fn fc) (op ar : Int) (hn : f.code.length ≤ 90000) :
  ∃ a m c w5, (Builtin.append_ #[49, 49] 49 #[cv, .slice (some ⟨w.heap.size, 0, none⟩) 1 1]).run Tryz.prog (w.alloc (.cells #[.int .i64 op, .int .i64 ar] 48)) = .ok (.slice a m c) w5 ∧ Kept (fun q => cv.ownBlock = some q) w w5 ∧ OthG w w5 ∧
   w5.cell? ⟨fg, gs.length * 4 + 3, none⟩ = some cv ∧ w5.frozen? ⟨fg, gs.length * 4 + 3, none⟩ = false ∧
   RdX w0 (w5.setCell ⟨fg, gs.length * 4 + 3, none⟩ (.slice a m c)) r ⟨R.mem, R.sized, R.data, gs ++ [addC f op ar], R.ws⟩ dv fv lv wv gm (cs ++ [.slice a m c]) GM ∧ OthG w5 (w5.setCell ⟨fg, gs.length * 4 + 3, none⟩ (.slice a m c)) ∧ w0.heap.size ≤ fg := by
 have hcv : CV[gs.length]? = some cv := by rw [hc, ← hcl]; exact snoc_last _ _
 have hco : w.ownsRow w0.heap.size 48 2 cv f.code.length (icells f.code) := h.code.row gs.length cv (codX f) hcv (by rw [hf, List.map_append]; have := snoc_last (gs.map codX) (codX f); rw [List.length_map] at this; exact this)
 obtain ⟨v', w5, hr, ho, hk0, hk1, hnb⟩ := push_ins hco (.int .i64 op) (.int .i64 ar) rfl rfl h.kept hn
 obtain ⟨a, c, hv⟩ := ownsRow_shape ho
 have hch := own_is hco
 have hF5 := own_ch hk1 hch h.fns (by decide)
 rw [hfv] at hF5
 have hlen : R.fs.length = gs.length + 1 := by rw [hf]; simp
 have hfn : fn = R.fs.length := by
  rcases hF5.2 with ⟨e, _⟩ | ⟨g, cap, cur, e, _⟩
  ·cases e
  ·cases e; rfl
 subst hfn
 have hfg := hF5.lt fg rfl
 have hcell : w5.cell? ⟨fg, gs.length * 4 + 3, none⟩ = some cv := by
  have := hF5.cells (g := fg) rfl (gs.length * 4 + 3) cv (by
   rw [hf, hc, fnCells_at (gs ++ [f]) (cs ++ [cv]) gs.length f cv (snoc_last _ _) (by rw [← hcl]; exact snoc_last _ _) 3 (by omega)]
   rfl)
  rw [Addr.add_lit, Nat.zero_add] at this
  exact this
 have hs := kept_set w5 fg (gs.length * 4 + 3) v'
 have hcb : Ch w5 (fun q => q = fg) 51 := fun q hq => by
  subst hq
  exact own_is hF5 _ rfl
 have hFst := (hF5.stored (gs.length * 4 + 3) v').1
 have hCod := (h.code.set (k := gs.length) hcv hk1 v' (f.code.length + 1, icells (f.code ++ [⟨op, ar⟩])) (by rw [icells_snoc]; exact ho) (fun q hq => by
  rcases hnb with e | e
  ·exact .inl (by rw [← e]; exact hq)
  ·rw [e] at hq
   cases hq
   exact .inr (by omega)))
 rw [hc, ← hcl, set_last, hcl, hf, List.map_append, List.map_cons, List.map_nil, ← List.length_map (f := codX), set_last] at hCod
 have hnn : nmL 0 (gs ++ [addC f op ar]) = nmL 0 R.fs := nmL_same 0 _ _ (by rw [hf]; simp [addC])
 have hll : (gs ++ [addC f op ar]).length = R.fs.length := by rw [hf]; simp
 have hX : RdX w0 (w5.setCell ⟨fg, gs.length * 4 + 3, none⟩ v') r ⟨R.mem, R.sized, R.data, gs ++ [addC f op ar], R.ws⟩ dv fv lv wv gm (cs ++ [v']) GM := by
  refine ⟨⟨box_ch hs hcb (box_ch hk1 hch h.box (by decide)) (by decide), own_ch hs hcb (own_ch hk1 hch h.data (by decide)) (by decide), ?_, ?_, own_ch hs hcb (own_ch hk1 hch h.mps (by decide)) (by decide), fun i g f' h1 h2 => ?_, ?_, h.nodup, h.newer, own_ch hs hcb (own_ch hk1 hch h.wts (by decide)) (by decide), ?_, h.lo⟩, h.glen.trans hll.symm⟩
  ·show World.ownsRow _ _ _ _ fv (gs ++ [addC f op ar]).length (fnCells (gs ++ [addC f op ar]) (cs ++ [v']))
   have e : fnCells (gs ++ [addC f op ar]) (cs ++ [v']) = (fnCells R.fs CV).set (gs.length * 4 + 3) v' := by
    rw [hf, hc, fnCells_last gs cs f cv v' hcl]
    exact fnCells_same _ _ _ (by simp [addC])
   rw [hll, e, hfv]
   exact hFst
  ·show Fam _ _ _ _ _ ((gs ++ [addC f op ar]).map codX)
   rw [List.map_append]
   have := hCod.ch hs hcb (by decide)
   have e : [addC f op ar].map codX = [(f.code.length + 1, icells (f.code ++ [⟨op, ar⟩]))] := by simp [codX, addC]
   rw [e]
   exact this
  ·by_cases hi : i < gs.length
   ·have h2' : (gs ++ [addC f op ar])[i]? = some f' := h2
    rw [List.getElem?_append_left hi] at h2'
    exact ((h.maps i g f' h1 (by rw [hf, List.getElem?_append_left hi]; exact h2')).ch hk1 hch).ch hs hcb
   ·have h0 : i = gs.length := by
     have := (List.getElem?_eq_some_iff.1 h1).1
     rw [h.glen, hlen] at this
     omega
    subst h0
    have h2' : (gs ++ [addC f op ar])[gs.length]? = some f' := h2
    rw [snoc_last] at h2'
    cases h2'
    exact ((h.maps gs.length g f h1 (by rw [hf]; exact snoc_last _ _)).ch hk1 hch).ch hs hcb
  ·rw [hnn]
   exact (h.names.ch hk1 hch).ch hs hcb
  ·exact hk0.setCell (.inl hfg.1) _
 refine ⟨a, _, c, w5, by rw [hr, hv], hk1, ch_othG hk1 hch (by decide), hcell, hF5.frozenAt _, ?_, ?_, hfg.1⟩
 ·rw [← hv]
  exact hX
 ·exact ch_othG (kept_set w5 fg (gs.length * 4 + 3) _) hcb (by decide)
end Go.Proofs.YtpfmhibdmehlcaaGreatDoor

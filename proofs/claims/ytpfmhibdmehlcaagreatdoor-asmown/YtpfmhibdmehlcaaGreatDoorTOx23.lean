import Derived.Test.YtpfmhibdmehlcaaGreatDoorTOx15
namespace Go.Proofs.YtpfmhibdmehlcaaGreatDoor
open Go.RowKit
set_option linter.unusedVariables false
set_option linter.unusedSimpArgs false
set_option maxRecDepth 100000
def MethR (w0 w : World) (r : Nat) (o : RR) (e : Ending) (w' : World) : Prop :=
 Kept (fun _ => False) w0 w' ∧ ((∃ R', o = .good R' ∧ e = .returned (.int .i64 0) ∧ RdG w0 w' r R' ∧ OthG w w') ∨ (∃ n, o = .bad n ∧ e = .returned (.int .i64 n)))
theorem MethR.from {w0 w w1 w' : World} {r : Nat} {o : RR} {e : Ending} (h : MethR w0 w1 r o e w') (ho : OthG w w1) : MethR w0 w r o e w' := by
 obtain ⟨hk, h | h⟩ := h
 ·obtain ⟨R', h1, h2, h3, h4⟩ := h
  exact ⟨hk, .inl ⟨R', h1, h2, h3, ho.trans h4⟩⟩
 ·exact ⟨hk, .inr h⟩
variable {w0 w : World} {r gm : Nat} {R : Rdr} {dv fv lv wv : Value} {CV : List Value} {GM : List Nat}
theorem box_ne {w : World} {g r : Nat} {cs cs' : Array Value} {t t' : TypeId} {f f' : Nat × Nat} (h : w.heap[g]? = some (.cells cs t f)) (h' : w.heap[r]? = some (.cells cs' t' f')) (hne : t ≠ t') : ¬ g = r := fun e => by
 rw [e, h'] at h
 simp only [Option.some.injEq, Obj.cells.injEq] at h
 exact hne h.2.1.symm
theorem RdX.mem (h : RdX w0 w r R dv fv lv wv gm CV GM) (n : Int) : RdX w0 ((w.setCell ⟨r, 3, none⟩ (.bool true)).setCell ⟨r, 0, none⟩ (.int .i64 n)) r ⟨n, true, R.data, R.fs, R.ws⟩ dv fv lv wv gm CV GM ∧ OthG w ((w.setCell ⟨r, 3, none⟩ (.bool true)).setCell ⟨r, 0, none⟩ (.int .i64 n)) := by
 have hb1 := set_block _ _ 3 _ _ _ h.box (.bool true)
 have hb2 := set_block _ _ 0 _ _ _ hb1 (.int .i64 n)
 have hk1 := kept_set w r 3 (.bool true)
 have hk2 := kept_set (w.setCell ⟨r, 3, none⟩ (.bool true)) r 0 (.int .i64 n)
 have hk := hk1.trans hk2
 have hc := ch_box h.box
 exact ⟨⟨(show RdY w0 _ ⟨n, true, R.data, R.fs, R.ws⟩ (nmL 0 R.fs) dv fv lv wv gm CV GM from ⟨(h.rest.ch hk hc (by decide)).data, (h.rest.ch hk hc (by decide)).fns, (h.rest.ch hk hc (by decide)).code, (h.rest.ch hk hc (by decide)).mps, (h.rest.ch hk hc (by decide)).maps, (h.rest.ch hk hc (by decide)).names, h.nodup, h.newer, (h.rest.ch hk hc (by decide)).wts⟩).with hb2 (h.kept.step hk (fun i hi e => by have := h.lo; omega)) h.lo, h.glen⟩, ch_othG hk hc (by decide)⟩
set_option maxHeartbeats 8000000 in
theorem memoryG (g o n c : Nat) (ps : List Pf) (cs : Array Value) (h : RdX w0 w r R dv fv lv wv gm CV GM) (hP : FsAt w g o ps) (hg : w.heap[g]? = some (.cells cs 125 (0, 0))) (hn : n = ps.length) (hl : R.fs.length ≤ 90000) (hnl : n ≤ 90000) :
  Calls Tryz.prog 55 #[.pointer (some ⟨r, 0, none⟩), .slice (some ⟨g, o, none⟩) n c] w (MethR w0 w r (memP R ps)) := by
 have hka : Kept (fun _ => False) w (w.alloc (.cells #[.int .i64 1] 3)) := (Kept.refl _ _).alloc _
 have hba := heap_alloc_new w (.cells #[.int .i64 1] 3)
 have HF := hid_of (fitsG g o n c w.heap.size 1 1 ps [1] (w.alloc (.cells #[.int .i64 1] 3)) (hP.kept hka id) (fun i x hx => by
  rw [cell_block _ _ i _ _ _ hba]
  rcases i with _ | i <;> simp at hx ⊢ <;> exact hx) hn rfl hnl (by omega))
 have HBG := hid_of (begunG h.toRdZ hl)
 have c3 := cell_block _ _ 3 _ _ _ h.box
 have HKA := hid_of hka
 have HKW := hid_of h.kept
 by_cases hs : R.sized = true
 ·have HE : memP R ps = .bad 141 := if_pos (.inl hs)
  rw [HE]
  rw [hs] at c3
  clear h hba hka HE hs
  go_enter Tryz.func55, Tryz.ntmps55
  go_wp2
  go_ret
  exact ⟨HKW.out, .inr ⟨_, rfl, rfl⟩⟩
 have hs' : R.sized = false := by simpa using hs
 rw [hs'] at c3
 by_cases hf : R.fs = []
 ·rw [decide_eq_false (by simpa using hf)] at HBG
  by_cases hk : ps.map Pf.k = [1]
  ·rw [decide_eq_true hk] at HF
   obtain ⟨p, rfl⟩ : ∃ p, ps = [p] := by
    have := congrArg List.length hk
    simp only [List.length_map, List.length_cons, List.length_nil] at this
    exact List.length_eq_one_iff.1 this
   have HTF : Hid (∀ w1, Kept (fun _ => False) w w1 → Calls Tryz.prog 76 #[.slice (some ⟨g, o, none⟩) n c] w1 fun e w' => e = .returned (.bool (([p] : List Pf).any Pf.f)) ∧ Kept (fun _ => False) w1 w') := fun w1 hk1 => tooFarG g o n c [p] w1 (hP.kept hk1 id) hn hnl
   by_cases hfar : ([p] : List Pf).any Pf.f = true
   ·have HE : memP R [p] = .bad 143 := by
     unfold memP
     rw [if_neg (by rw [hs']; simp [hf, hk]), if_pos hfar]
    rw [HE]
    rw [hfar] at HTF
    clear h hba hka HE hs hs' hf hk hfar hP hg hn
    go_enter Tryz.func55, Tryz.ntmps55
    go_wp2_with fail
    refine HBG.out.mono ?_
    rintro e w1 ⟨rfl, hw⟩
    have hw := hw.symm
    subst hw
    go_wp2_with fail
    refine HF.out.mono ?_
    rintro e w2 ⟨rfl, hk2⟩
    have HK2 := hid_of (HKA.out.trans hk2)
    clear hk2 HF
    go_wp2_with fail
    refine (HTF.out _ HK2.out).mono ?_
    rintro e w3 ⟨rfl, hk3⟩
    have HK3 := hid_of (HK2.out.trans hk3)
    clear hk3 HK2
    go_wp2
    go_ret
    exact ⟨HKW.out.trans HK3.out, .inr ⟨_, rfl, rfl⟩⟩
   ·have hfar' : ([p] : List Pf).any Pf.f = false := by simpa using hfar
    have HE : memP R [p] = .good ⟨p.n, true, R.data, R.fs, R.ws⟩ := by
     unfold memP
     rw [if_neg (by rw [hs']; simp [hf, hk]), if_neg hfar]
     rfl
    rw [HE]
    rw [hfar'] at HTF
    have HX := hid_of h
    have hn1 : n = 1 := hn
    have HP0 := hid_of (hP 0 p rfl)
    have HGG := hid_of hg
    subst hn1
    clear h hba hka HE hs hs' hf hk hfar hfar' hP hg hn
    go_enter Tryz.func55, Tryz.ntmps55
    go_wp2_with fail
    refine HBG.out.mono ?_
    rintro e w1 ⟨rfl, hw⟩
    have hw := hw.symm
    subst hw
    go_wp2_with fail
    refine HF.out.mono ?_
    rintro e w2 ⟨rfl, hk2⟩
    have HK2 := hid_of (HKA.out.trans hk2)
    clear hk2 HF
    go_wp2_with fail
    refine (HTF.out _ HK2.out).mono ?_
    rintro e w3 ⟨rfl, hk3⟩
    have HK3 := hid_of (HK2.out.trans hk3)
    clear hk3 HK2 c3
    have HX3 := hid_of (HX.out.same HK3.out)
    obtain ⟨b0, b1, b2, b3, b4, b5, b6, f2, f5⟩ := look7 HX3.out.box
    have f0 := frozen_block _ _ 0 _ _ HX3.out.box
    have f3 := frozen_block _ _ 3 _ _ HX3.out.box
    have hne : ¬ g = r := box_ne (box_kept HK3.out HGG.out id) HX3.out.box (by decide)
    have p2 : w3.cell? ⟨g, o + 2, none⟩ = some (.int .i64 p.n) := by
     have := HK3.out.cell (HP0.out 2 (.int .i64 p.n) rfl) id
     simpa using this
    have HFIN := hid_of (HX3.out.mem p.n)
    have hb4 := set_block _ _ 3 _ _ _ HX3.out.box (.bool true)
    have x0 := cell_block _ _ 0 _ _ _ hb4
    have y0 := frozen_block _ _ 0 _ _ hb4
    have p3 : (w3.setCell ⟨r, 3, none⟩ (.bool true)).cell? ⟨g, o + 2, none⟩ = some (.int .i64 p.n) := (kept_set w3 r 3 (.bool true)).cell p2 hne
    clear hb4 b1 b2 b4 b5 b6 f2 f5
    go_wp2
    go_ret
    exact ⟨HFIN.out.1.kept, .inl ⟨_, rfl, rfl, ⟨_, _, _, _, _, _, _, HFIN.out.1⟩, (Kept.othG HK3.out).trans HFIN.out.2⟩⟩
  ·have HE : memP R ps = .bad 141 := if_pos (.inr (.inr hk))
   rw [HE]
   rw [decide_eq_false hk] at HF
   clear h hba hka HE hs hs' hf hk hP hg hn
   go_enter Tryz.func55, Tryz.ntmps55
   go_wp2_with fail
   refine HBG.out.mono ?_
   rintro e w1 ⟨rfl, hw⟩
   have hw := hw.symm
   subst hw
   go_wp2_with fail
   refine HF.out.mono ?_
   rintro e w2 ⟨rfl, hk2⟩
   have HK2 := hid_of (HKA.out.trans hk2)
   clear hk2 HF
   go_wp2
   go_ret
   exact ⟨HKW.out.trans HK2.out, .inr ⟨_, rfl, rfl⟩⟩
 ·have HE : memP R ps = .bad 141 := if_pos (.inr (.inl hf))
  rw [HE]
  rw [decide_eq_true hf] at HBG
  clear h hba hka HE hs hs' hf hP hg hn HF
  go_enter Tryz.func55, Tryz.ntmps55
  go_wp2_with fail
  refine HBG.out.mono ?_
  rintro e w1 ⟨rfl, hw⟩
  have hw := hw.symm
  subst hw
  go_wp2
  go_ret
  exact ⟨HKW.out, .inr ⟨_, rfl, rfl⟩⟩
theorem byts_bytI (s : ByteArray) : byts (bytI s) = Lib.strCells s := by
 unfold byts bytI Lib.strCells
 rw [List.map_map]
 rfl
theorem RdX.pushD (h : RdX w0 w r R dv fv lv wv gm CV GM) (s : ByteArray) (hl : R.data.length + s.size ≤ 140737488355328) : ∃ a m c w5, (Builtin.append_ #[22, 9] 22 #[dv, .string s]).run Tryz.prog w = .ok (.slice a m c) w5 ∧ Kept (fun q => dv.ownBlock = some q) w w5 ∧ OthG w w5 ∧
  w5.heap[r]? = some (.cells #[.int .i64 R.mem, dv, fv, .bool R.sized, .map (some gm), lv, wv] 93 (0, 0)) ∧
  RdX w0 (w5.setCell ⟨r, 1, none⟩ (.slice a m c)) r ⟨R.mem, R.sized, R.data ++ bytI s, R.fs, R.ws⟩ (.slice a m c) fv lv wv gm CV GM ∧ OthG w5 (w5.setCell ⟨r, 1, none⟩ (.slice a m c)) := by
 obtain ⟨i0, hi, hz0, hz1, hz2⟩ := info_parts Tryz.info5
 obtain ⟨v', w5, hr, h2, h3, h4⟩ := Lib.run_append_own_string (P := Tryz.prog) w w0.heap.size 22 9 22 5 i0 Tryz.underlying22 Tryz.underlying9 hi hz0 hz1 hz2 dv R.data.length (byts R.data) h.data s (by unfold maxLen; omega) (by omega) h.kept.size
 have hk1 : Kept (fun q => dv.ownBlock = some q) w w5 := (Kept.refl _ w).grown h3 (fun k hk => .inr hk)
 obtain ⟨a, q, rfl⟩ := ownsRow_shape h2
 have hc := own_is h.data
 have hy : RdY w0 w5 ⟨R.mem, R.sized, R.data ++ bytI s, R.fs, R.ws⟩ (nmL 0 R.fs) (.slice a (R.data.length + s.size) q) fv lv wv gm CV GM := by
  refine ⟨?_, own_ch hk1 hc h.fns (by decide), h.code.ch hk1 hc (by decide), own_ch hk1 hc h.mps (by decide), fun i g f h1 h2 => (h.maps i g f h1 h2).ch hk1 hc, h.names.ch hk1 hc, h.nodup, h.newer, own_ch hk1 hc h.wts (by decide)⟩
  show w5.ownsRow _ _ _ _ (R.data ++ bytI s).length (byts (R.data ++ bytI s))
  have : byts (R.data ++ bytI s) = byts R.data ++ Lib.strCells s := by rw [← byts_bytI]; simp [byts]
  rw [this, List.length_append, show (bytI s).length = s.size by unfold bytI; rw [List.length_map, Lib.size_eq]]
  exact h2
 obtain ⟨h5, h6, h7, h8⟩ := h.toRdZ.store hk1 hc (by decide) (fun q hq => (h.data.lt q hq).1) hy 1 (.slice a (R.data.length + s.size) q) rfl
 exact ⟨_, _, _, w5, hr, hk1, h5, h6, ⟨h7, h.glen⟩, h8⟩
set_option maxHeartbeats 8000000 in
theorem dataG (g o n c : Nat) (ps : List Pf) (cs : Array Value) (h : RdX w0 w r R dv fv lv wv gm CV GM) (hP : FsAt w g o ps) (hg : w.heap[g]? = some (.cells cs 125 (0, 0))) (hn : n = ps.length) (hl : R.fs.length ≤ 90000) (hnl : n ≤ 90000) (hd : R.data.length ≤ 100000000000000) (hss : ∀ p ∈ ps, p.s.size ≤ 65536) :
  Calls Tryz.prog 56 #[.pointer (some ⟨r, 0, none⟩), .slice (some ⟨g, o, none⟩) n c] w (MethR w0 w r (datP R ps)) := by
 have hka : Kept (fun _ => False) w (w.alloc (.cells #[.int .i64 2] 3)) := (Kept.refl _ _).alloc _
 have hba := heap_alloc_new w (.cells #[.int .i64 2] 3)
 have HF := hid_of (fitsG g o n c w.heap.size 1 1 ps [2] (w.alloc (.cells #[.int .i64 2] 3)) (hP.kept hka id) (fun i x hx => by
  rw [cell_block _ _ i _ _ _ hba]
  rcases i with _ | i <;> simp at hx ⊢ <;> exact hx) hn rfl hnl (by omega))
 have HBG := hid_of (begunG h.toRdZ hl)
 have HKA := hid_of hka
 have HKW := hid_of h.kept
 by_cases hf : R.fs = []
 ·rw [decide_eq_false (by simpa using hf)] at HBG
  by_cases hk : ps.map Pf.k = [2]
  ·rw [decide_eq_true hk] at HF
   obtain ⟨p, rfl⟩ : ∃ p, ps = [p] := by
    have := congrArg List.length hk
    simp only [List.length_map, List.length_cons, List.length_nil] at this
    exact List.length_eq_one_iff.1 this
   have HE : datP R [p] = .good ⟨R.mem, R.sized, R.data ++ bytI p.s, R.fs, R.ws⟩ := by
    unfold datP
    rw [if_neg (by simp [hf]; simpa using hk)]
    rfl
   rw [HE]
   have HX := hid_of h
   have hn1 : n = 1 := hn
   have HP0 := hid_of (hP 0 p rfl)
   have HGG := hid_of hg
   have HSS : Hid (p.s.size ≤ 65536) := hss p List.mem_cons_self
   have HDL := hid_of hd
   subst hn1
   clear h hba hka HE hf hk hP hg hn hss hd
   go_enter Tryz.func56, Tryz.ntmps56
   go_wp2_with fail
   refine HBG.out.mono ?_
   rintro e w1 ⟨rfl, hw⟩
   have hw := hw.symm
   subst hw
   go_wp2_with fail
   refine HF.out.mono ?_
   rintro e w2 ⟨rfl, hk2⟩
   have HK2 := hid_of (HKA.out.trans hk2)
   clear hk2 HF HKA
   go_upto_region 3 with fail
   have HKd := hid_of (HK2.out.drew)
   have HXd := hid_of (HX.out.same HKd.out)
   refine wp_region_held_drew (S := fun w' => Kept (fun q => dv.ownBlock = some q ∨ q = r) w2.drew w') (by kernel_rfl) (Kept.refl _ _) (fun hHeld => ?_)
   generalize w2.drew = wd at *
   have hne : ¬ g = r := box_ne (box_kept HKd.out HGG.out id) HXd.out.box (by decide)
   have hngd : dv.ownBlock ≠ some g := fun e => own_box2 HXd.out.data (box_kept HKd.out HGG.out id) (by decide) e
   have hnrd : dv.ownBlock ≠ some r := fun e => own_box2 HXd.out.data HXd.out.box (by decide) e
   have hp1 : wd.cell? ⟨g, o + 1, none⟩ = some (.string p.s) := by
    have := HKd.out.cell (HP0.out 1 (.string p.s) rfl) id
    simpa using this
   have HSM : Hid (∀ w', Kept (fun q => dv.ownBlock = some q ∨ q = r) wd w' → w'.cell? ⟨g, o + 1, none⟩ = some (.string p.s)) := fun w' hw => hw.cell hp1 (fun e => e.elim hngd hne)
   have l1 := cell_block _ _ 1 _ _ _ HXd.out.box
   obtain ⟨a, m, c5, w5, hr, hk5, ho5, hb5, hx5, ho6⟩ := HXd.out.pushD p.s (by have := HSS.out; have := HDL.out; omega)
   have HR := hid_of hr
   have HK5 := hid_of (hk5.mono (T := fun q => dv.ownBlock = some q ∨ q = r) (fun _ _ e => .inl e))
   have HK6 := hid_of (HK5.out.setCell (p := ⟨r, 1, none⟩) (.inr (.inr rfl)) (.slice a m c5))
   have HO := hid_of ((Kept.othG HKd.out).trans (ho5.trans ho6))
   have HX5 := hid_of hx5
   have q1 := cell_block _ _ 1 _ _ _ hb5
   have f1 := frozen_block _ _ 1 _ _ hb5
   obtain ⟨da, dc, hdv⟩ := ownsRow_shape HXd.out.data
   obtain ⟨dn, hdn⟩ := nmd (R.data.length)
   rw [← hdn] at hdv
   subst hdv
   clear hr hk5 ho5 hb5 hx5 ho6 hp1 hngd hnrd hne hdn
   iterate 5
    refine tkn (v := ?_) 0 rfl ?_ ?_; rotate_left 1
    ·intro w hSw; go_simp; try with_reducible rfl
    try simp only [Act.put, tdy]
   iterate 3
    refine tkn (v := ?_) 6 rfl ?_ ?_; rotate_left 1
    ·intro w hSw; go_simp; try with_reducible rfl
    try simp only [Act.put, tdy]
   iterate 1
    refine tkn (v := ?_) 9 rfl ?_ ?_; rotate_left 1
    ·intro w hSw; have s1 := HSM.out w hSw; go_simp; try with_reducible rfl
    try simp only [Act.put, tdy]
   refine rdy 5 rfl (fun K hK => ?_)
   go_simp
   refine hK.out _ _ hHeld (fun hHeld => ?_)
   clear hK K
   try simp only [Act.put, tdy]
   refine rdy 10 rfl (fun K hK => ?_)
   refine step_app rfl (.tmp 18) (.tmp 22) 22 9 rfl _ _ rfl rfl (.slice a m c5) w5 HR.out ?_
   refine hK.out _ _ HK5.out (fun hHeld => ?_)
   clear hK K
   try simp only [Act.put, tdy]
   iterate 3
    refine tkn (v := ?_) 11 rfl ?_ ?_; rotate_left 1
    ·intro w hSw; go_simp; try with_reducible rfl
    try simp only [Act.put, tdy]
   refine rdy 14 rfl (fun K hK => ?_)
   go_simp
   refine hK.out _ _ HK6.out (fun hHeld => ?_)
   clear hK K
   try simp only [Act.put, tdy]
   refine wpAnyH_done (by kernel_rfl) ?_ _
   go_wp2
   go_ret
   exact ⟨HX5.out.kept, .inl ⟨_, rfl, rfl, ⟨_, _, _, _, _, _, _, HX5.out⟩, HO.out⟩⟩
  ·have HE : datP R ps = .bad 141 := if_pos (.inr hk)
   rw [HE]
   rw [decide_eq_false hk] at HF
   clear h hba hka HE hf hk hP hg hn
   go_enter Tryz.func56, Tryz.ntmps56
   go_wp2_with fail
   refine HBG.out.mono ?_
   rintro e w1 ⟨rfl, hw⟩
   have hw := hw.symm
   subst hw
   go_wp2_with fail
   refine HF.out.mono ?_
   rintro e w2 ⟨rfl, hk2⟩
   have HK2 := hid_of (HKA.out.trans hk2)
   clear hk2 HF
   go_wp2
   go_ret
   exact ⟨HKW.out.trans HK2.out, .inr ⟨_, rfl, rfl⟩⟩
 ·have HE : datP R ps = .bad 141 := if_pos (.inl hf)
  rw [HE]
  rw [decide_eq_true hf] at HBG
  clear h hba hka HE hf hP hg hn HF
  go_enter Tryz.func56, Tryz.ntmps56
  go_wp2_with fail
  refine HBG.out.mono ?_
  rintro e w1 ⟨rfl, hw⟩
  have hw := hw.symm
  subst hw
  go_wp2
  go_ret
  exact ⟨HKW.out, .inr ⟨_, rfl, rfl⟩⟩
end Go.Proofs.YtpfmhibdmehlcaaGreatDoor
namespace Go.Proofs.YtpfmhibdmehlcaaGreatDoor
open Go.RowKit
set_option linter.unusedVariables false
set_option linter.unusedSimpArgs false
set_option maxRecDepth 100000
variable {w0 w : World} {r gm : Nat} {R : Rdr} {NL : List (ByteArray × Int)} {dv fv lv wv : Value} {CV : List Value} {GM : List Nat}
set_option maxHeartbeats 4000000 in
theorem name_old (g : Nat) (s : ByteArray) (n : Int) (L : List (ByteArray × Int)) (h : MapIs w g L) (hs : (lkA L s).isSome = true) : Calls Tryz.prog 79 #[.map (some g), .string s, .int .i64 n] w fun e w' => e = .returned (.bool false) ∧ w' = w := by
 have hL := h.run_look s true
 obtain ⟨v, hv⟩ := Option.isSome_iff_exists.1 hs
 rw [hv] at hL
 simp only [Option.isSome_some, if_true] at hL
 clear h hs hv
 go_enter Tryz.func79, Tryz.ntmps79
 go_wp2
 go_ret
 exact ⟨rfl, rfl⟩
set_option maxHeartbeats 4000000 in
theorem name_newG (g : Nat) (s : ByteArray) (n : Int) (L : List (ByteArray × Int)) (h : MapIs w g L) (hs : lkA L s = none) : Calls Tryz.prog 79 #[.map (some g), .string s, .int .i64 n] w fun e w' => e = .returned (.bool true) ∧ Kept (fun q => q = g) w w' ∧ MapIs w' g (L ++ [(s, n)]) := by
 have hL := h.run_look s true
 rw [hs] at hL
 simp only [Option.isSome_none, if_true] at hL
 obtain ⟨w', hU, hk, hm⟩ := h.run_lay s n hs
 have HK := hid_of (And.intro hk hm)
 clear h hs hk hm
 go_enter Tryz.func79, Tryz.ntmps79
 go_wp2
 go_ret
 exact ⟨rfl, HK.out⟩
theorem RdZ.name {w' : World} (h : RdZ w0 w r R NL dv fv lv wv gm CV GM) (hk : Kept (fun q => q = gm) w w') {NL' : List (ByteArray × Int)} (hm : MapIs w' gm NL') : RdZ w0 w' r R NL' dv fv lv wv gm CV GM ∧ OthG w w' := by
 have hn := h.names
 refine ⟨⟨hn.box hk h.box, hn.own hk h.data, hn.own hk h.fns, hn.fam hk h.code, hn.own hk h.mps, fun i g f h1 h2 => (h.maps i g f h1 h2).other hk (fun e => ?_), hm, h.nodup, h.newer, hn.own hk h.wts, h.kept.step hk (fun q hq e => ?_), h.lo⟩, hn.othG hk⟩
 ·have := (List.nodup_cons.1 h.nodup).1
  exact this (by rw [← e]; exact List.mem_of_getElem? h1)
 ·have := h.newer gm List.mem_cons_self
  omega
theorem RdZ.pushF (h : RdZ w0 w r R NL dv fv lv wv gm CV GM) (hg : GM.length = R.fs.length) (f : Fnc) (hc : f.code = []) (hn : R.fs.length ≤ 90000) :
  ∃ a m c w5, (Builtin.append_ #[23, 23] 23 #[fv, .slice (some ⟨w.heap.size, 0, none⟩) 1 1]).run Tryz.prog (w.alloc (.cells #[.int .i64 f.a, .int .i64 f.l, .int .i64 f.r, .slice none 0 0] 51)) = .ok (.slice a m c) w5 ∧ Kept (fun q => fv.ownBlock = some q) w w5 ∧ OthG w w5 ∧
   w5.heap[r]? = some (.cells #[.int .i64 R.mem, dv, fv, .bool R.sized, .map (some gm), lv, wv] 93 (0, 0)) ∧
   RdZ w0 (w5.setCell ⟨r, 2, none⟩ (.slice a m c)) r ⟨R.mem, R.sized, R.data, R.fs ++ [f], R.ws⟩ NL dv (.slice a m c) lv wv gm (CV ++ [.slice none 0 0]) GM ∧ OthG w5 (w5.setCell ⟨r, 2, none⟩ (.slice a m c)) := by
 obtain ⟨v', w5, hr, ho, hk0, hk1, hnb⟩ := push_func h.fns (.int .i64 f.a) (.int .i64 f.l) (.int .i64 f.r) (.slice none 0 0) rfl rfl rfl rfl h.kept hn
 obtain ⟨a, c, hv⟩ := ownsRow_shape ho
 have hch := own_is h.fns
 have hy : RdY w0 w5 ⟨R.mem, R.sized, R.data, R.fs ++ [f], R.ws⟩ NL dv v' lv wv gm (CV ++ [.slice none 0 0]) GM := by
  refine ⟨own_ch hk1 hch h.data (by decide), ?_, ?_, own_ch hk1 hch h.mps (by decide), fun i g f' h1 h2 => ?_, h.names.ch hk1 hch, h.nodup, h.newer, own_ch hk1 hch h.wts (by decide)⟩
  ·show w5.ownsRow _ _ _ _ (R.fs ++ [f]).length (fnCells (R.fs ++ [f]) _)
   rw [fnCells_snoc _ _ _ _ h.clen, List.length_append]
   exact ho
  ·have := (h.code.ch hk1 hch (by decide)).snoc
   show Fam w5 _ _ _ _ ((R.fs ++ [f]).map codX)
   rw [List.map_append]
   have e : [f].map codX = [(0, [])] := by simp [codX, hc, icells]
   rw [e]
   exact this
  ·have hi := (List.getElem?_eq_some_iff.1 h1).1
   have h2' : (R.fs ++ [f])[i]? = some f' := h2
   rw [List.getElem?_append_left (by omega)] at h2'
   exact (h.maps i g f' h1 h2').ch hk1 hch
 obtain ⟨h5, h6, h7, h8⟩ := h.store hk1 hch (by decide) (fun q hq => (h.fns.lt q hq).1) hy 2 v' rfl
 subst hv
 exact ⟨_, _, _, w5, hr, hk1, h5, h6, h7, h8⟩
theorem RdZ.pushM (h : RdZ w0 w r R NL dv fv lv wv gm CV GM) (fs : List Fnc) (f : Fnc) (hf : R.fs = fs ++ [f]) (hg : GM.length = fs.length) (hl : f.ls = []) (hn : R.fs.length ≤ 90000) (hw : ∀ x ∈ R.ws, x.fn < GM.length) :
  ∃ a m c w5, (Builtin.append_ #[90, 90] 90 #[lv, .slice (some ⟨w.heap.size + 1, 0, none⟩) 1 1]).run Tryz.prog ((w.alloc (.map #[] 0)).alloc (.cells #[.map (some w.heap.size)] 89)) = .ok (.slice a m c) w5 ∧ OthG w w5 ∧
   w5.heap[r]? = some (.cells #[.int .i64 R.mem, dv, fv, .bool R.sized, .map (some gm), lv, wv] 93 (0, 0)) ∧
   RdZ w0 (w5.setCell ⟨r, 5, none⟩ (.slice a m c)) r R NL dv fv (.slice a m c) wv gm CV (GM ++ [w.heap.size]) ∧ OthG w5 (w5.setCell ⟨r, 5, none⟩ (.slice a m c)) := by
 have hka : Kept (fun _ => False) w (w.alloc (.map #[] 0)) := (Kept.refl _ _).alloc _
 have hA := h.same hka
 have hmm : (w.alloc (.map #[] 0)).heap[w.heap.size]? = some (.map #[] 0) := heap_alloc_new _ _
 have hMN := map_new hmm
 obtain ⟨v', w5, hr, ho, hk0, hk1, hnb⟩ := push_map hA.mps (.map (some w.heap.size)) rfl hA.kept (by have e := congrArg List.length hf; rw [List.length_append, List.length_cons, List.length_nil] at e; omega)
 rw [show (w.alloc (.map #[] 0)).heap.size = w.heap.size + 1 by simp] at hr
 obtain ⟨a, c, hv⟩ := ownsRow_shape ho
 have hch := own_is hA.mps
 have hgm : ∀ g ∈ gm :: GM, g < w.heap.size := fun g hg' => by
  rcases List.mem_cons.1 hg' with rfl | hm
  ·obtain ⟨_, _, e, _⟩ := h.names
   exact (Array.getElem?_eq_some_iff.1 e).1
  ·obtain ⟨i, hi, e⟩ := List.getElem_of_mem hm
   have h1 : GM[i]? = some g := by rw [List.getElem?_eq_getElem hi, e]
   have h2 : R.fs[i]? = some (R.fs[i]'(by have e := congrArg List.length hf; rw [List.length_append, List.length_cons, List.length_nil] at e; omega)) := List.getElem?_eq_getElem _
   obtain ⟨_, _, e2, _⟩ := h.maps i g _ h1 h2
   exact (Array.getElem?_eq_some_iff.1 e2).1
 have hy : RdY w0 w5 R NL dv fv v' wv gm CV (GM ++ [w.heap.size]) := by
  refine ⟨own_ch hk1 hch hA.data (by decide), own_ch hk1 hch hA.fns (by decide), hA.code.ch hk1 hch (by decide), ?_, fun i g f' h1 h2 => ?_, hA.names.ch hk1 hch, ?_, fun g hg' => ?_, ?_⟩
  ·rw [List.length_append, List.map_append]
   exact ho
  ·by_cases hi : i < GM.length
   ·rw [List.getElem?_append_left hi] at h1
    exact (hA.maps i g f' h1 h2).ch hk1 hch
   ·have h0 : i = GM.length := by
     have := (List.getElem?_eq_some_iff.1 h1).1
     simp at this
     omega
    subst h0
    rw [List.getElem?_append_right (Nat.le_refl _), Nat.sub_self] at h1
    simp only [List.getElem?_cons_zero, Option.some.injEq] at h1
    subst h1
    rw [hf, hg, List.getElem?_append_right (Nat.le_refl _), Nat.sub_self] at h2
    simp only [List.getElem?_cons_zero, Option.some.injEq] at h2
    subst h2
    rw [hl]
    exact hMN.ch hk1 hch
  ·rw [show gm :: (GM ++ [w.heap.size]) = (gm :: GM) ++ [w.heap.size] from rfl, List.nodup_append]
   refine ⟨h.nodup, by simp, fun x hx y hy => ?_⟩
   rw [List.mem_singleton.1 hy]
   have := hgm x hx
   omega
  ·rcases List.mem_append.1 (show g ∈ (gm :: GM) ++ [w.heap.size] from hg') with hm | hm
   ·exact h.newer g hm
   ·rw [List.mem_singleton.1 hm]
    exact h.kept.size
  ·have := own_ch hk1 hch hA.wts (by decide)
   rw [wtCells_more _ _ _ _ hw]
   exact this
 obtain ⟨h5, h6, h7, h8⟩ := hA.store hk1 hch (by decide) (fun q hq => (hA.mps.lt q hq).1) hy 5 v' rfl
 subst hv
 exact ⟨_, _, _, w5, hr, (Kept.othG hka).trans h5, h6, h7, h8⟩
end Go.Proofs.YtpfmhibdmehlcaaGreatDoor

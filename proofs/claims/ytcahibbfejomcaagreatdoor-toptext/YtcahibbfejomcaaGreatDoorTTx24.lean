import Derived.Test.YtcahibbfejomcaaGreatDoorTTx23
namespace Go.Proofs.YtcahibbfejomcaaGreatDoor
open Go.RowKit
set_option linter.unusedVariables false
set_option linter.unusedSimpArgs false
set_option maxRecDepth 100000
variable {w0 w : World} {r gm : Nat} {R : Rdr} {NL : List (ByteArray × Int)} {dv fv lv wv : Value} {CV : List Value} {GM : List Nat}
theorem Tryz.info143 : (Tryz.prog.info? 143).map (fun i => (i.zero, i.size, i.bytes)) = some (some (.agg #[.int .i64 0, .int .i64 0, .int .i64 0, .string ⟨#[]⟩, .map none]), 5, 48) := by kernel_rfl
theorem push_wt {w0 W : World} {v : Value} {k : Nat} {xs : List Value} (h : W.ownsRow w0.heap.size 143 5 v k xs) (x0 x1 x2 x3 x4 : Value) (h0 : x0.oneCell' = true) (h1 : x1.oneCell' = true) (h2 : x2.oneCell' = true) (h3 : x3.oneCell' = true) (h4' : x4.oneCell' = true) (hk : Kept (fun _ => False) w0 W) (hl : k ≤ 90000) :
  ∃ v' w', (Builtin.append_ #[101, 101] 101 #[v, .slice (some ⟨W.heap.size, 0, none⟩) 1 1]).run Tryz.prog (W.alloc (.cells #[x0, x1, x2, x3, x4] 143)) = .ok v' w' ∧ w'.ownsRow w0.heap.size 143 5 v' (k + 1) (xs ++ [x0, x1, x2, x3, x4]) ∧ Kept (fun _ => False) w0 w' ∧ Kept (fun q => v.ownBlock = some q) W w' ∧ NewB W v v' := by
 obtain ⟨i0, hi, hz0, hz1, hz2⟩ := info_parts Tryz.info143
 obtain ⟨v', w', hr, h2', h3', h4, _⟩ := append_old (P := Tryz.prog) (W.alloc (.cells #[x0, x1, x2, x3, x4] 143)) w0.heap.size 101 101 143 i0 _ 5 48 Tryz.underlying101 hi hz0 hz1 hz2 rfl (by decide) v k xs (h.alloc _) ⟨W.heap.size, 0, none⟩ 1 1 [x0, x1, x2, x3, x4] (by simp) (fun j u hj => by
  have hjl := (List.getElem?_eq_some_iff.1 hj).1
  rw [Addr.add_lit, Nat.zero_add, cell_block _ _ _ _ _ _ (heap_alloc_new W _)]
  simpa using hj) (fun u hu => by
   simp at hu
   rcases hu with rfl | rfl | rfl | rfl | rfl <;> assumption) (by unfold maxLen; omega) (by omega) (by have := hk.size; simp; omega)
 have hk1 : Kept (fun k => v.ownBlock = some k) W w' := ((Kept.refl _ W).alloc _).grown h3' (fun k hk => .inr hk)
 exact ⟨v', w', hr, h2', hk.step hk1 (fun i hi e => by have := (h.lt i e).1; omega), hk1, by simpa [NewB] using h4⟩
theorem built135 (ln f p : Int) (s : ByteArray) (m : Nat) : Tryz.prog.built 143 [(0, .int .i64 ln), (1, .agg #[.int .i64 f, .int .i64 p]), (2, .string s), (3, .map (some m))] = some #[.int .i64 ln, .int .i64 f, .int .i64 p, .string s, .map (some m)] := by kernel_rfl
theorem run135 (w : World) (ln f p : Int) (s : ByteArray) (m : Nat) : (Instr.build 143 #[(0, .int .i64 ln), (1, .agg #[.int .i64 f, .int .i64 p]), (2, .string s), (3, .map (some m))]).run Tryz.prog w = .ok (.agg #[.int .i64 ln, .int .i64 f, .int .i64 p, .string s, .map (some m)]) w :=
 run_build w 143 _ _ (built135 ln f p s m)
theorem exec135 (ev : Operand → Value) (oi : Oper) (w : World) (ln f p : Int) (s : ByteArray) (m : Nat) (o0 o1 o2 o3 : Operand) (ho : oi.op = .build 143 #[(0, o0), (1, o1), (2, o2), (3, o3)]) (h0 : ev o0 = .int .i64 ln) (h1 : ev o1 = .agg #[.int .i64 f, .int .i64 p]) (h2 : ev o2 = .string s) (h3 : ev o3 = .map (some m)) :
  Sem.run Tryz.prog (execOp ev oi) w = Result.ok (Next.value (.agg #[.int .i64 ln, .int .i64 f, .int .i64 p, .string s, .map (some m)])) w := by
 have hr := run135 w ln f p s m
 unfold execOp
 simp only [ho, List.map_toArray, List.map_cons, List.map_nil, h0, h1, h2, h3, Sem.run_bind, hr, Result.andThen_ok, Sem.run_pure]
theorem RdX.pushW (h : RdX w0 w r R dv fv lv wv gm CV GM) (x : Wt) (hn : R.ws.length ≤ 90000) :
  ∃ a m c w5, (Builtin.append_ #[101, 101] 101 #[wv, .slice (some ⟨w.heap.size, 0, none⟩) 1 1]).run Tryz.prog (w.alloc (.cells #[.int .i64 x.ln, .int .i64 (x.fn : Int), .int .i64 (x.pl : Int), .string x.nm, .map (some (wtM gm GM x))] 143)) = .ok (.slice a m c) w5 ∧ Kept (fun q => wv.ownBlock = some q) w w5 ∧ OthG w w5 ∧
   w5.heap[r]? = some (.cells #[.int .i64 R.mem, dv, fv, .bool R.sized, .map (some gm), lv, wv] 103 (0, 0)) ∧
   RdX w0 (w5.setCell ⟨r, 6, none⟩ (.slice a m c)) r ⟨R.mem, R.sized, R.data, R.fs, R.ws ++ [x]⟩ dv fv lv (.slice a m c) gm CV GM ∧ OthG w5 (w5.setCell ⟨r, 6, none⟩ (.slice a m c)) := by
 obtain ⟨v', w5, hr, ho, hk0, hk1, hnb⟩ := push_wt h.wts (.int .i64 x.ln) (.int .i64 (x.fn : Int)) (.int .i64 (x.pl : Int)) (.string x.nm) (.map (some (wtM gm GM x))) rfl rfl rfl rfl rfl h.kept hn
 obtain ⟨a, c, hv⟩ := ownsRow_shape ho
 have hch := own_is h.wts
 have hy : RdY w0 w5 ⟨R.mem, R.sized, R.data, R.fs, R.ws ++ [x]⟩ (nmL 0 R.fs) dv fv lv v' gm CV GM := by
  refine ⟨own_ch hk1 hch h.data (by decide), own_ch hk1 hch h.fns (by decide), h.code.ch hk1 hch (by decide), own_ch hk1 hch h.mps (by decide), fun i g f' h1 h2 => (h.maps i g f' h1 h2).ch hk1 hch, h.names.ch hk1 hch, h.nodup, h.newer, ?_⟩
  show w5.ownsRow _ _ _ _ (R.ws ++ [x]).length (wtCells gm GM (R.ws ++ [x]))
  rw [wtCells_snoc, List.length_append]
  exact ho
 obtain ⟨h5, h6, h7, h8⟩ := h.toRdZ.store hk1 hch (by decide) (fun q hq => (h.wts.lt q hq).1) hy 6 v' rfl
 subst hv
 exact ⟨_, _, _, w5, hr, hk1, h5, h6, ⟨h7, h.glen⟩, h8⟩
theorem set_last {α : Type} (l : List α) (x y : α) : (l ++ [x]).set l.length y = l ++ [y] := by simp
theorem icells_snoc (ys : List IN) (op a : Int) : icells (ys ++ [⟨op, a⟩]) = icells ys ++ [.int .i64 op, .int .i64 a] := by simp [icells, IN.cells]
theorem RdX.pushC (h : RdX w0 w r R dv fv lv wv gm CV GM) {gs : List Fnc} {f : Fnc} (hf : R.fs = gs ++ [f]) {cs : List Value} {cv : Value} (hc : CV = cs ++ [cv]) (hcl : cs.length = gs.length) (fg fn fc : Nat) (hfv : fv = .slice (some ⟨fg, 0, none⟩) fn fc) (op ar : Int) (hn : f.code.length ≤ 90000) :
  ∃ a m c w5, (Builtin.append_ #[54, 54] 54 #[cv, .slice (some ⟨w.heap.size, 0, none⟩) 1 1]).run Tryz.prog (w.alloc (.cells #[.int .i64 op, .int .i64 ar] 72)) = .ok (.slice a m c) w5 ∧ Kept (fun q => cv.ownBlock = some q) w w5 ∧ OthG w w5 ∧
   w5.cell? ⟨fg, gs.length * 4 + 3, none⟩ = some cv ∧ w5.frozen? ⟨fg, gs.length * 4 + 3, none⟩ = false ∧
   RdX w0 (w5.setCell ⟨fg, gs.length * 4 + 3, none⟩ (.slice a m c)) r ⟨R.mem, R.sized, R.data, gs ++ [addC f op ar], R.ws⟩ dv fv lv wv gm (cs ++ [.slice a m c]) GM ∧ OthG w5 (w5.setCell ⟨fg, gs.length * 4 + 3, none⟩ (.slice a m c)) ∧ w0.heap.size ≤ fg := by
 have hcv : CV[gs.length]? = some cv := by rw [hc, ← hcl]; exact snoc_last _ _
 have hco : w.ownsRow w0.heap.size 72 2 cv f.code.length (icells f.code) := h.code.row gs.length cv (codX f) hcv (by rw [hf, List.map_append]; have := snoc_last (gs.map codX) (codX f); rw [List.length_map] at this; exact this)
 obtain ⟨v', w5, hr, ho, hk0, hk1, hnb⟩ := push_ins hco (.int .i64 op) (.int .i64 ar) rfl rfl h.kept hn
 obtain ⟨a, c, hv⟩ := ownsRow_shape ho
 have hch := own_is hco
 have hF5 := own_ch hk1 hch h.fns (by decide)
 rw [hfv] at hF5
 have hlen : R.fs.length = gs.length + 1 := by rw [hf]; simp
 have hfn : fn = R.fs.length := by
  rcases hF5.2 with ⟨e, _⟩ | ⟨g, cap, cur, e, _⟩
  ·cases e
  ·cases e; rfl
 subst hfn
 have hfg := hF5.lt fg rfl
 have hcell : w5.cell? ⟨fg, gs.length * 4 + 3, none⟩ = some cv := by
  have := hF5.cells (g := fg) rfl (gs.length * 4 + 3) cv (by
   rw [hf, hc, fnCells_at (gs ++ [f]) (cs ++ [cv]) gs.length f cv (snoc_last _ _) (by rw [← hcl]; exact snoc_last _ _) 3 (by omega)]
   rfl)
  rw [Addr.add_lit, Nat.zero_add] at this
  exact this
 have hs := kept_set w5 fg (gs.length * 4 + 3) v'
 have hcb : Ch w5 (fun q => q = fg) 56 := fun q hq => by
  subst hq
  exact own_is hF5 _ rfl
 have hFst := (hF5.stored (gs.length * 4 + 3) v').1
 have hCod := (h.code.set (k := gs.length) hcv hk1 v' (f.code.length + 1, icells (f.code ++ [⟨op, ar⟩])) (by rw [icells_snoc]; exact ho) (fun q hq => by
  rcases hnb with e | e
  ·exact .inl (by rw [← e]; exact hq)
  ·rw [e] at hq
   cases hq
   exact .inr (by omega)))
 rw [hc, ← hcl, set_last, hcl, hf, List.map_append, List.map_cons, List.map_nil, ← List.length_map (f := codX), set_last] at hCod
 have hnn : nmL 0 (gs ++ [addC f op ar]) = nmL 0 R.fs := nmL_same 0 _ _ (by rw [hf]; simp [addC])
 have hll : (gs ++ [addC f op ar]).length = R.fs.length := by rw [hf]; simp
 have hX : RdX w0 (w5.setCell ⟨fg, gs.length * 4 + 3, none⟩ v') r ⟨R.mem, R.sized, R.data, gs ++ [addC f op ar], R.ws⟩ dv fv lv wv gm (cs ++ [v']) GM := by
  refine ⟨⟨box_ch hs hcb (box_ch hk1 hch h.box (by decide)) (by decide), own_ch hs hcb (own_ch hk1 hch h.data (by decide)) (by decide), ?_, ?_, own_ch hs hcb (own_ch hk1 hch h.mps (by decide)) (by decide), fun i g f' h1 h2 => ?_, ?_, h.nodup, h.newer, own_ch hs hcb (own_ch hk1 hch h.wts (by decide)) (by decide), ?_, h.lo⟩, h.glen.trans hll.symm⟩
  ·show World.ownsRow _ _ _ _ fv (gs ++ [addC f op ar]).length (fnCells (gs ++ [addC f op ar]) (cs ++ [v']))
   have e : fnCells (gs ++ [addC f op ar]) (cs ++ [v']) = (fnCells R.fs CV).set (gs.length * 4 + 3) v' := by
    rw [hf, hc, fnCells_last gs cs f cv v' hcl]
    exact fnCells_same _ _ _ (by simp [addC])
   rw [hll, e, hfv]
   exact hFst
  ·show Fam _ _ _ _ _ ((gs ++ [addC f op ar]).map codX)
   rw [List.map_append]
   have := hCod.ch hs hcb (by decide)
   have e : [addC f op ar].map codX = [(f.code.length + 1, icells (f.code ++ [⟨op, ar⟩]))] := by simp [codX, addC]
   rw [e]
   exact this
  ·by_cases hi : i < gs.length
   ·have h2' : (gs ++ [addC f op ar])[i]? = some f' := h2
    rw [List.getElem?_append_left hi] at h2'
    exact ((h.maps i g f' h1 (by rw [hf, List.getElem?_append_left hi]; exact h2')).ch hk1 hch).ch hs hcb
   ·have h0 : i = gs.length := by
     have := (List.getElem?_eq_some_iff.1 h1).1
     rw [h.glen, hlen] at this
     omega
    subst h0
    have h2' : (gs ++ [addC f op ar])[gs.length]? = some f' := h2
    rw [snoc_last] at h2'
    cases h2'
    exact ((h.maps gs.length g f h1 (by rw [hf]; exact snoc_last _ _)).ch hk1 hch).ch hs hcb
  ·rw [hnn]
   exact (h.names.ch hk1 hch).ch hs hcb
  ·exact hk0.setCell (.inl hfg.1) _
 refine ⟨a, _, c, w5, by rw [hr, hv], hk1, ch_othG hk1 hch (by decide), hcell, hF5.frozenAt _, ?_, ?_, hfg.1⟩
 ·rw [← hv]
  exact hX
 ·exact ch_othG (kept_set w5 fg (gs.length * 4 + 3) _) hcb (by decide)
end Go.Proofs.YtcahibbfejomcaaGreatDoor

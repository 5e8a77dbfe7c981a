import Derived.Test.YtpfmhibdmehlcaaGreatDoorTBa24
namespace Go.Proofs.YtpfmhibdmehlcaaGreatDoor
open Go.RowKit
set_option linter.unusedVariables false
set_option linter.unusedSimpArgs false
set_option maxRecDepth 100000
def fnC (f : Fnc) (c : Value) : List Value := [.int .i64 f.a, .int .i64 f.l, .int .i64 f.r, c]
def fnCells : List Fnc → List Value → List Value
 | f :: fs, c :: cs => fnC f c ++ fnCells fs cs
 | _, _ => []
theorem fnCells_snoc : ∀ (fs : List Fnc) (cs : List Value) (f : Fnc) (c : Value), cs.length = fs.length → fnCells (fs ++ [f]) (cs ++ [c]) = fnCells fs cs ++ fnC f c
 | [], [], f, c, _ => by simp [fnCells]
 | [], _ :: _, f, c, h => by simp at h
 | _ :: _, [], f, c, h => by simp at h
 | g :: fs, d :: cs, f, c, h => by
  rw [List.cons_append, List.cons_append, fnCells, fnCells, fnCells_snoc fs cs f c (by simpa using h), List.append_assoc]
theorem fnCells_at : ∀ (fs : List Fnc) (cs : List Value) (i : Nat) (f : Fnc) (c : Value), fs[i]? = some f → cs[i]? = some c → ∀ j, j < 4 → (fnCells fs cs)[i * 4 + j]? = (fnC f c)[j]?
 | g :: fs, d :: cs, 0, f, c, h1, h2, j, hj => by
  simp at h1 h2
  subst h1
  subst h2
  rw [fnCells, List.getElem?_append_left (by show 0 * 4 + j < 4; omega)]
  congr 1
  omega
 | g :: fs, d :: cs, i + 1, f, c, h1, h2, j, hj => by
  rw [fnCells, List.getElem?_append_right (by show 4 ≤ (i + 1) * 4 + j; omega)]
  have : (i + 1) * 4 + j - (fnC g d).length = i * 4 + j := by show (i + 1) * 4 + j - 4 = _; omega
  rw [this]
  exact fnCells_at fs cs i f c (by simpa using h1) (by simpa using h2) j hj
 | [], _, i, f, c, h1, _, _, _ => by simp at h1
 | _ :: _, [], i, f, c, _, h2, _, _ => by simp at h2
theorem fnCells_last (fs : List Fnc) (cs : List Value) (f : Fnc) (c c' : Value) (h : cs.length = fs.length) : (fnCells (fs ++ [f]) (cs ++ [c])).set (fs.length * 4 + 3) c' = fnCells (fs ++ [f]) (cs ++ [c']) := by
 rw [fnCells_snoc fs cs f c h, fnCells_snoc fs cs f c' h]
 have hl : (fnCells fs cs).length = fs.length * 4 := by
  clear c c' f
  revert cs
  induction fs with
  | nil => intro cs h; cases cs with
   | nil => rfl
   | cons _ _ => simp at h
  | cons g fs ih => intro cs h; cases cs with
   | nil => simp at h
   | cons d cs =>
    rw [fnCells, List.length_append, ih cs (by simpa using h)]
    show 4 + _ = _
    simp only [List.length_cons]
    omega
 rw [List.set_append_right _ _ (by omega), hl]
 congr 1
 rw [show fs.length * 4 + 3 - fs.length * 4 = 3 by omega]
 rfl
theorem fnCells_same : ∀ (fs gs : List Fnc) (cs : List Value), fs.map (fun f => (f.a, f.l, f.r)) = gs.map (fun f => (f.a, f.l, f.r)) → fnCells fs cs = fnCells gs cs
 | [], [], cs, _ => rfl
 | [], g :: gs, cs, h => by simp at h
 | f :: fs, [], cs, h => by simp at h
 | f :: fs, g :: gs, [], h => by simp [fnCells]
 | f :: fs, g :: gs, c :: cs, h => by
  simp only [List.map_cons, List.cons.injEq, Prod.mk.injEq] at h
  obtain ⟨⟨h1, h2, h3⟩, h4⟩ := h
  rw [fnCells, fnCells, fnCells_same fs gs cs h4]
  unfold fnC
  rw [h1, h2, h3]
def codX (f : Fnc) : Nat × List Value := (f.code.length, icells f.code)
def mpV (g : Nat) : Value := .map (some g)
def wtC (m : Nat) (x : Wt) : List Value := [.int .i64 x.ln, .int .i64 (x.fn : Int), .int .i64 (x.pl : Int), .string x.nm, .map (some m)]
def wtM (gm : Nat) (GM : List Nat) (x : Wt) : Nat := if x.jump = true then GM.getD x.fn 0 else gm
def wtCells (gm : Nat) (GM : List Nat) (ws : List Wt) : List Value := ws.flatMap (fun x => wtC (wtM gm GM x) x)
theorem wtCells_snoc (gm : Nat) (GM : List Nat) (ws : List Wt) (x : Wt) : wtCells gm GM (ws ++ [x]) = wtCells gm GM ws ++ wtC (wtM gm GM x) x := by simp [wtCells]
theorem wtCells_more (gm : Nat) (GM : List Nat) (g : Nat) : ∀ (ws : List Wt), (∀ x ∈ ws, x.fn < GM.length) → wtCells gm (GM ++ [g]) ws = wtCells gm GM ws
 | [], _ => rfl
 | x :: ws, h => by
  have e : ∀ G, wtCells gm G (x :: ws) = wtC (wtM gm G x) x ++ wtCells gm G ws := fun G => by simp [wtCells]
  rw [e, e, wtCells_more gm GM g ws (fun y hy => h y (List.mem_cons_of_mem _ hy))]
  congr 2
  unfold wtM
  rw [List.getD_eq_getElem?_getD, List.getD_eq_getElem?_getD, List.getElem?_append_left (h x List.mem_cons_self)]
structure RdZ (w0 w : World) (r : Nat) (R : Rdr) (NL : List (ByteArray × Int)) (dv fv lv wv : Value) (gm : Nat) (CV : List Value) (GM : List Nat) : Prop where
 box : w.heap[r]? = some (.cells #[.int .i64 R.mem, dv, fv, .bool R.sized, .map (some gm), lv, wv] 93 (0, 0))
 data : w.ownsRow w0.heap.size 5 1 dv R.data.length (byts R.data)
 fns : w.ownsRow w0.heap.size 51 4 fv R.fs.length (fnCells R.fs CV)
 code : Fam w w0.heap.size 48 2 CV (R.fs.map codX)
 mps : w.ownsRow w0.heap.size 89 1 lv GM.length (GM.map mpV)
 maps : ∀ (i g : Nat) (f : Fnc), GM[i]? = some g → R.fs[i]? = some f → MapIs w g f.ls
 names : MapIs w gm NL
 nodup : (gm :: GM).Nodup
 newer : ∀ g ∈ gm :: GM, w0.heap.size ≤ g
 wts : w.ownsRow w0.heap.size 130 5 wv R.ws.length (wtCells gm GM R.ws)
 kept : Kept (fun _ => False) w0 w
 lo : w0.heap.size ≤ r
structure RdX (w0 w : World) (r : Nat) (R : Rdr) (dv fv lv wv : Value) (gm : Nat) (CV : List Value) (GM : List Nat) : Prop extends RdZ w0 w r R (nmL 0 R.fs) dv fv lv wv gm CV GM where
 glen : GM.length = R.fs.length
def RdG (w0 w : World) (r : Nat) (R : Rdr) : Prop := ∃ dv fv lv wv gm CV GM, RdX w0 w r R dv fv lv wv gm CV GM
variable {w0 w w' : World} {r gm : Nat} {R : Rdr} {NL : List (ByteArray × Int)} {dv fv lv wv : Value} {CV : List Value} {GM : List Nat}
theorem RdZ.same (h : RdZ w0 w r R NL dv fv lv wv gm CV GM) (hk : Kept (fun _ => False) w w') : RdZ w0 w' r R NL dv fv lv wv gm CV GM :=
 ⟨box_kept hk h.box id, hk.ownsRow h.data (fun _ _ f => f), hk.ownsRow h.fns (fun _ _ f => f), h.code.same hk, hk.ownsRow h.mps (fun _ _ f => f), fun i g f h1 h2 => (h.maps i g f h1 h2).same hk, h.names.same hk, h.nodup, h.newer, hk.ownsRow h.wts (fun _ _ f => f), h.kept.trans hk, h.lo⟩
theorem RdX.same (h : RdX w0 w r R dv fv lv wv gm CV GM) (hk : Kept (fun _ => False) w w') : RdX w0 w' r R dv fv lv wv gm CV GM := ⟨h.toRdZ.same hk, h.glen⟩
theorem RdG.same (h : RdG w0 w r R) (hk : Kept (fun _ => False) w w') : RdG w0 w' r R := by
 obtain ⟨dv, fv, lv, wv, gm, CV, GM, hX⟩ := h
 exact ⟨_, _, _, _, _, _, _, hX.same hk⟩
theorem RdZ.clen (h : RdZ w0 w r R NL dv fv lv wv gm CV GM) : CV.length = R.fs.length := by rw [h.code.len, List.length_map]
def OthG (w w' : World) : Prop := ∀ (q : Nat) (cs : Array Value) (t : TypeId), w.heap[q]? = some (.cells cs t (0, 0)) → t = 9 ∨ t = 125 → w'.heap[q]? = some (.cells cs t (0, 0))
theorem OthG.trans {a b c : World} (h : OthG a b) (k : OthG b c) : OthG a c := fun q cs t hq ht => k q cs t (h q cs t hq ht) ht
theorem OthG.refl (w : World) : OthG w w := fun _ _ _ h _ => h
theorem Kept.othG (h : Kept (fun _ => False) w w') : OthG w w' := fun q cs t hq _ => box_kept h hq id
theorem ch_othG {S : Nat → Prop} {t : TypeId} (hk : Kept S w w') (hc : Ch w S t) (hne : t ≠ 9 ∧ t ≠ 125) : OthG w w' := fun q cs t' hq ht => box_ch hk hc hq (fun e => by
 rcases ht with h | h
 ·exact hne.1 (e.trans h)
 ·exact hne.2 (e.trans h))
theorem MapIs.othG {g : Nat} {L : List (ByteArray × Int)} (h : MapIs w g L) (hk : Kept (fun q => q = g) w w') : OthG w w' := fun q cs t' hq _ => h.box hk hq
structure RdY (w0 w : World) (R : Rdr) (NL : List (ByteArray × Int)) (dv fv lv wv : Value) (gm : Nat) (CV : List Value) (GM : List Nat) : Prop where
 data : w.ownsRow w0.heap.size 5 1 dv R.data.length (byts R.data)
 fns : w.ownsRow w0.heap.size 51 4 fv R.fs.length (fnCells R.fs CV)
 code : Fam w w0.heap.size 48 2 CV (R.fs.map codX)
 mps : w.ownsRow w0.heap.size 89 1 lv GM.length (GM.map mpV)
 maps : ∀ (i g : Nat) (f : Fnc), GM[i]? = some g → R.fs[i]? = some f → MapIs w g f.ls
 names : MapIs w gm NL
 nodup : (gm :: GM).Nodup
 newer : ∀ g ∈ gm :: GM, w0.heap.size ≤ g
 wts : w.ownsRow w0.heap.size 130 5 wv R.ws.length (wtCells gm GM R.ws)
theorem RdZ.rest (h : RdZ w0 w r R NL dv fv lv wv gm CV GM) : RdY w0 w R NL dv fv lv wv gm CV GM := ⟨h.data, h.fns, h.code, h.mps, h.maps, h.names, h.nodup, h.newer, h.wts⟩
theorem RdY.with (h : RdY w0 w R NL dv fv lv wv gm CV GM) (hb : w.heap[r]? = some (.cells #[.int .i64 R.mem, dv, fv, .bool R.sized, .map (some gm), lv, wv] 93 (0, 0))) (hk : Kept (fun _ => False) w0 w) (hl : w0.heap.size ≤ r) : RdZ w0 w r R NL dv fv lv wv gm CV GM :=
 ⟨hb, h.data, h.fns, h.code, h.mps, h.maps, h.names, h.nodup, h.newer, h.wts, hk, hl⟩
theorem RdY.ch {S : Nat → Prop} {t : TypeId} (h : RdY w0 w R NL dv fv lv wv gm CV GM) (hk : Kept S w w') (hc : Ch w S t) (hne : t ≠ 5 ∧ t ≠ 51 ∧ t ≠ 48 ∧ t ≠ 89 ∧ t ≠ 130) : RdY w0 w' R NL dv fv lv wv gm CV GM :=
 ⟨own_ch hk hc h.data hne.1, own_ch hk hc h.fns hne.2.1, h.code.ch hk hc hne.2.2.1, own_ch hk hc h.mps hne.2.2.2.1, fun i g f h1 h2 => (h.maps i g f h1 h2).ch hk hc, h.names.ch hk hc, h.nodup, h.newer, own_ch hk hc h.wts hne.2.2.2.2⟩
theorem RdZ.store {S : Nat → Prop} {t : TypeId} {R' : Rdr} {w5 : World} {dv' fv' lv' wv' : Value} {CV' : List Value} {GM' : List Nat} (h : RdZ w0 w r R NL dv fv lv wv gm CV GM) (hk : Kept S w w5) (hc : Ch w S t) (hne : t ≠ 93 ∧ t ≠ 9 ∧ t ≠ 125) (hS : ∀ q, S q → w0.heap.size ≤ q) (hy : RdY w0 w5 R' NL dv' fv' lv' wv' gm CV' GM') (i : Nat) (v : Value)
  (hb : #[.int .i64 R'.mem, dv', fv', .bool R'.sized, .map (some gm), lv', wv'] = (#[.int .i64 R.mem, dv, fv, .bool R.sized, .map (some gm), lv, wv] : Array Value).setIfInBounds i v) :
  OthG w w5 ∧ w5.heap[r]? = some (.cells #[.int .i64 R.mem, dv, fv, .bool R.sized, .map (some gm), lv, wv] 93 (0, 0)) ∧ RdZ w0 (w5.setCell ⟨r, i, none⟩ v) r R' NL dv' fv' lv' wv' gm CV' GM' ∧ OthG w5 (w5.setCell ⟨r, i, none⟩ v) := by
 have hb5 := box_ch hk hc h.box hne.1
 have hs := kept_set w5 r i v
 have hcb := ch_box hb5
 refine ⟨ch_othG hk hc hne.2, hb5, (hy.ch hs hcb (by decide)).with ?_ ((h.kept.step hk (fun q hq e => by have := hS q e; omega)).setCell (.inl h.lo) _) h.lo, ch_othG hs hcb (by decide)⟩
 rw [set_block _ _ i _ _ _ hb5 v, hb]
set_option maxHeartbeats 4000000 in
theorem begunG (h : RdZ w0 w r R NL dv fv lv wv gm CV GM) (hl : R.fs.length ≤ 90000) : Calls Tryz.prog 74 #[.pointer (some ⟨r, 0, none⟩)] w fun e w' => e = .returned (.bool (decide (R.fs ≠ []))) ∧ w' = w := by
 obtain ⟨fa, fc, hfv⟩ := ownsRow_shape h.fns
 have c2 := cell_block _ _ 2 _ _ _ h.box
 obtain ⟨n, hn⟩ := nmd (R.fs.length)
 rw [← hn] at hfv
 obtain ⟨q, hq⟩ := nmd (decide (R.fs ≠ []))
 have hqn : q = decide (0 < n) := by
  rw [hq, hn, decide_eq_decide]
  exact ⟨fun h => List.length_pos_iff.2 h, fun h => List.length_pos_iff.1 h⟩
 rw [← hq]
 have HQ : Hid (q = decide (0 < n)) := hqn
 subst hfv
 have hnb : (n : Int) ≤ 90000 := by omega
 clear h hn hq hqn
 go_enter Tryz.func74, Tryz.ntmps74
 go_wp2
 go_ret
 exact ⟨by rw [HQ.out]; rfl, rfl⟩
set_option maxHeartbeats 4000000 in
theorem lastG (h : RdZ w0 w r R NL dv fv lv wv gm CV GM) (gs : List Fnc) (f : Fnc) (hf : R.fs = gs ++ [f]) (hl : gs.length ≤ 90000) : Calls Tryz.prog 106 #[.pointer (some ⟨r, 0, none⟩)] w fun e w' => e = .returned (.int .i64 (gs.length : Int)) ∧ w' = w := by
 obtain ⟨fa, fc, hfv⟩ := ownsRow_shape h.fns
 have c2 := cell_block _ _ 2 _ _ _ h.box
 obtain ⟨n, hn⟩ := nmd (R.fs.length)
 rw [← hn] at hfv
 rw [hf, List.length_append] at hn
 obtain ⟨m, hm⟩ := nmd (gs.length)
 rw [← hm] at hn hl ⊢
 have hn : n = m + 1 := hn
 subst hn
 subst hfv
 clear h hm hf
 go_enter Tryz.func106, Tryz.ntmps106
 go_wp2
 go_ret
 exact ⟨by go_num, rfl⟩
end Go.Proofs.YtpfmhibdmehlcaaGreatDoor

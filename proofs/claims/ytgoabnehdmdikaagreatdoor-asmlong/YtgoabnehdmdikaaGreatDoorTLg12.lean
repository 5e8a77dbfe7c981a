import Derived.Test.YtgoabnehdmdikaaGreatDoorTLg11
import Derived.Test.YtgoabnehdmdikaaGreatDoorTLg7
set_option linter.unusedVariables false
set_option linter.unusedSimpArgs false
set_option maxRecDepth 100000
set_option maxHeartbeats 64000000
namespace Go.Proofs.YtgoabnehdmdikaaGreatDoor
open Go.RowKit
def Ch (w : World) (S : Nat → Prop) (t : TypeId) : Prop := ∀ q, S q → ∃ cs f, w.heap[q]? = some (.cells cs t f)
theorem Yz {w : World} {B e s : Nat} {v : Value} {n : Nat} {xs : List Value} (h : w.ownsRow B e s v n xs) : Ch w (fun q => v.ownBlock = some q) e := fun q hq => by
 rcases h.2 with ⟨rfl, _⟩ | ⟨g, cap, cur, rfl, _, hgg, _⟩
 ·cases hq
 ·simp [Value.ownBlock] at hq
  subst hq
  exact ⟨_, _, hgg⟩
theorem Yx {w : World} {r : Nat} {cs : Array Value} {t : TypeId} {f : Nat × Nat} (h : w.heap[r]? = some (.cells cs t f)) : Ch w (fun q => q = r) t := fun q hq => by subst hq; exact ⟨_, _, h⟩
variable {S : Nat → Prop} {t : TypeId} {w w' : World}
theorem Ztu (hc : Ch w S t) {B e s : Nat} {v : Value} {n : Nat} {xs : List Value} (h : w.ownsRow B e s v n xs) (hne : t ≠ e) : ∀ q, v.ownBlock = some q → ¬ S q := fun q hq hS => by
 obtain ⟨cs, f, e1⟩ := hc q hS
 obtain ⟨cs', f', e2⟩ := Yz h q hq
 rw [e1] at e2
 simp only [Option.some.injEq, Obj.cells.injEq] at e2
 exact hne e2.2.1
theorem Zi (hk : Kept S w w') (hc : Ch w S t) {B e s : Nat} {v : Value} {n : Nat} {xs : List Value} (h : w.ownsRow B e s v n xs) (hne : t ≠ e) : w'.ownsRow B e s v n xs := hk.ownsRow h (Ztu hc h hne)
theorem Zah (hk : Kept S w w') (hc : Ch w S t) {g : Nat} {cs : Array Value} {t' : TypeId} {f : Nat × Nat} (hb : w.heap[g]? = some (.cells cs t' f)) (hne : t ≠ t') : w'.heap[g]? = some (.cells cs t' f) := Zc hk hb (fun hS => by
 obtain ⟨cs', f', e1⟩ := hc g hS
 rw [hb] at e1
 simp only [Option.some.injEq, Obj.cells.injEq] at e1
 exact hne e1.2.1.symm)
structure Fam (w : World) (B e s : Nat) (vs : List Value) (xss : List (Nat × List Value)) : Prop where
 len : vs.length = xss.length
 row : ∀ (i : Nat) (v : Value) (x : Nat × List Value), vs[i]? = some v → xss[i]? = some x → w.ownsRow B e s v x.1 x.2
 apart : ∀ (i j : Nat) (v u : Value), i ≠ j → vs[i]? = some v → vs[j]? = some u → ∀ q, v.ownBlock = some q → u.ownBlock ≠ some q
variable {B e s : Nat} {vs : List Value} {xss : List (Nat × List Value)}
theorem Fam.nil : Fam w B e s [] [] := ⟨rfl, fun i v x h => by simp at h, fun i j v u _ h => by simp at h⟩
theorem Fam.at (h : Fam w B e s vs xss) {i : Nat} {v : Value} (hv : vs[i]? = some v) : ∃ x, xss[i]? = some x ∧ w.ownsRow B e s v x.1 x.2 := by
 have hi := (List.getElem?_eq_some_iff.1 hv).1
 have hx : xss[i]? = some (xss[i]'(by rw [← h.len]; exact hi)) := List.getElem?_eq_getElem _
 exact ⟨_, hx, h.row i v _ hv hx⟩
theorem Fam.ch (h : Fam w B e s vs xss) (hk : Kept S w w') (hc : Ch w S t) (hne : t ≠ e) : Fam w' B e s vs xss := ⟨h.len, fun i v x hv hx => Zi hk hc (h.row i v x hv hx) hne, h.apart⟩
theorem Fam.same (h : Fam w B e s vs xss) (hk : Kept nF w w') : Fam w' B e s vs xss := ⟨h.len, fun i v x hv hx => hk.ownsRow (h.row i v x hv hx) (fun _ _ f => f), h.apart⟩
theorem Fam.snoc (h : Fam w B e s vs xss) : Fam w B e s (vs ++ [.slice none 0 0]) (xss ++ [(0, [])]) := by
 refine ⟨by simp [h.len], fun i v x hv hx => ?_, fun i j v u hne hv hu q hq => ?_⟩
 ·by_cases hi : i < vs.length
  ·rw [List.getElem?_append_left hi] at hv
   rw [List.getElem?_append_left (by rw [← h.len]; exact hi)] at hx
   exact h.row i v x hv hx
  ·rw [List.getElem?_append_right (by omega)] at hv
   rw [List.getElem?_append_right (by rw [← h.len]; omega)] at hx
   rw [← h.len] at hx
   have h0 : i - vs.length = 0 := by
    have := (List.getElem?_eq_some_iff.1 hv).1
    simpa using this
   rw [h0] at hv hx
   simp only [List.getElem?_cons_zero, Option.some.injEq] at hv hx
   subst hv
   subst hx
   exact World.ownsRow_nil _ _ _ _
 ·by_cases hi : i < vs.length
  ·rw [List.getElem?_append_left hi] at hv
   by_cases hj : j < vs.length
   ·rw [List.getElem?_append_left hj] at hu
    exact h.apart i j v u hne hv hu q hq
   ·rw [List.getElem?_append_right (by omega)] at hu
    have h0 : j - vs.length = 0 := by
     have := (List.getElem?_eq_some_iff.1 hu).1
     simpa using this
    rw [h0] at hu
    simp only [List.getElem?_cons_zero, Option.some.injEq] at hu
    subst hu
    intro f
    cases f
  ·rw [List.getElem?_append_right (by omega)] at hv
   have h0 : i - vs.length = 0 := by
    have := (List.getElem?_eq_some_iff.1 hv).1
    simpa using this
   rw [h0] at hv
   simp only [List.getElem?_cons_zero, Option.some.injEq] at hv
   subst hv
   cases hq
theorem Fam.set (h : Fam w B e s vs xss) {k : Nat} {v : Value} (hv : vs[k]? = some v) (hk : Kept (fun q => v.ownBlock = some q) w w') (v' : Value) (x' : Nat × List Value) (hr : w'.ownsRow B e s v' x'.1 x'.2) (hn : ∀ q, v'.ownBlock = some q → v.ownBlock = some q ∨ w.heap.size ≤ q) : Fam w' B e s (vs.set k v') (xss.set k x') := by
 have hkl := (List.getElem?_eq_some_iff.1 hv).1
 refine ⟨by simp [h.len], fun i u x hu hx => ?_, fun i j u1 u2 hne h1 h2 q hq => ?_⟩
 ·by_cases hik : k = i
  ·subst hik
   rw [List.getElem?_set_self hkl] at hu
   rw [List.getElem?_set_self (by rw [← h.len]; exact hkl)] at hx
   cases hu
   cases hx
   exact hr
  ·rw [List.getElem?_set_ne hik] at hu hx
   exact hk.ownsRow (h.row i u x hu hx) (fun q hq e => h.apart i k u v (fun e => hik e.symm) hu hv q hq e)
 ·by_cases hik : k = i
  ·subst hik
   rw [List.getElem?_set_self hkl] at h1
   rw [List.getElem?_set_ne hne] at h2
   cases h1
   intro hq2
   rcases hn q hq with hh | hh
   ·exact h.apart k j v u2 hne hv h2 q hh hq2
   ·obtain ⟨x, _, hx⟩ := h.at h2
    have := (hx.lt q hq2).2
    omega
  ·rw [List.getElem?_set_ne hik] at h1
   by_cases hjk : k = j
   ·subst hjk
    rw [List.getElem?_set_self hkl] at h2
    cases h2
    intro hq2
    rcases hn q hq2 with hh | hh
    ·exact h.apart i k u1 v hne h1 hv q hq hh
    ·obtain ⟨x, _, hx⟩ := h.at h1
     have := (hx.lt q hq).2
     omega
   ·rw [List.getElem?_set_ne hjk] at h2
    exact h.apart i j u1 u2 hne h1 h2 q hq
def MapIs (w : World) (g : Nat) (L : List (ByteArray × Int)) : Prop := ∃ clk es, w.heap[g]? = some (.map (es.map cN.ent).toArray clk) ∧ ∀ s : ByteArray, Zcu es s.data.toList = lkA L s
theorem MapIs.ch {g : Nat} {L : List (ByteArray × Int)} (h : MapIs w g L) (hk : Kept S w w') (hc : Ch w S t) : MapIs w' g L := by
 obtain ⟨clk, es, hm, hl⟩ := h
 refine ⟨clk, es, Zc hk hm (fun hS => ?_), hl⟩
 obtain ⟨cs', f', e1⟩ := hc g hS
 rw [hm] at e1
 cases e1
theorem MapIs.same {g : Nat} {L : List (ByteArray × Int)} (h : MapIs w g L) (hk : Kept nF w w') : MapIs w' g L := by
 obtain ⟨clk, es, hm, hl⟩ := h
 exact ⟨clk, es, Zc hk hm id, hl⟩
theorem MapIs.other {g g' : Nat} {L : List (ByteArray × Int)} (h : MapIs w g L) (hk : Kept (fun q => q = g') w w') (hne : g ≠ g') : MapIs w' g L := by
 obtain ⟨clk, es, hm, hl⟩ := h
 exact ⟨clk, es, Zc hk hm hne, hl⟩
theorem MapIs.not_own {g : Nat} {L : List (ByteArray × Int)} (h : MapIs w g L) {v : Value} {n : Nat} {xs : List Value} (ho : w.ownsRow B e s v n xs) : v.ownBlock ≠ some g := fun hq => by
 obtain ⟨clk, es, hm, _⟩ := h
 obtain ⟨cs, f, e1⟩ := Yz ho g hq
 rw [hm] at e1
 cases e1
theorem MapIs.not_box {g r : Nat} {L : List (ByteArray × Int)} (h : MapIs w g L) {cs : Array Value} {t' : TypeId} {f : Nat × Nat} (hb : w.heap[r]? = some (.cells cs t' f)) : r ≠ g := fun hq => by
 obtain ⟨clk, es, hm, _⟩ := h
 rw [hq, hm] at hb
 cases hb
theorem MapIs.own {g : Nat} {L : List (ByteArray × Int)} (h : MapIs w g L) (hk : Kept (fun q => q = g) w w') {v : Value} {n : Nat} {xs : List Value} (ho : w.ownsRow B e s v n xs) : w'.ownsRow B e s v n xs := hk.ownsRow ho (fun q hq e => h.not_own ho (by rw [hq, e]))
theorem MapIs.fam {g : Nat} {L : List (ByteArray × Int)} (h : MapIs w g L) (hk : Kept (fun q => q = g) w w') (ho : Fam w B e s vs xss) : Fam w' B e s vs xss := ⟨ho.len, fun i v x hv hx => h.own hk (ho.row i v x hv hx), ho.apart⟩
theorem MapIs.box {g r : Nat} {L : List (ByteArray × Int)} (h : MapIs w g L) (hk : Kept (fun q => q = g) w w') {cs : Array Value} {t' : TypeId} {f : Nat × Nat} (hb : w.heap[r]? = some (.cells cs t' f)) : w'.heap[r]? = some (.cells cs t' f) := Zc hk hb (h.not_box hb)
theorem Zlv {r : Nat} {clk : Nat} (hm : w.heap[r]? = some (.map #[] clk)) : MapIs w r [] := ⟨clk, [], hm, fun _ => rfl⟩
theorem MapIs.run_look {g : Nat} {L : List (ByteArray × Int)} (h : MapIs w g L) (x : ByteArray) (b : Bool) : (Instr.lookup 95 (.map (some g)) (.string x) b).run Tryz.prog w = .ok (if b then .tuple #[(match lkA L x with | some a => .int .i64 a | none => .int .i64 0), .bool (lkA L x).isSome] else (match lkA L x with | some a => .int .i64 a | none => .int .i64 0)) w := by
 obtain ⟨clk, es, hm, hl⟩ := h
 have hs : x = ⟨x.data.toList.toArray⟩ := by cases x; simp
 have hL := Go.Proofs.YtgoabnehdmdikaaGreatDoor.run_look Ztg w g clk es hm x.data.toList b
 rw [show cN.enc x.data.toList = .string x by show Value.string _ = _; rw [← hs]] at hL
 rw [hL]
 unfold Zjl
 rw [hl x]
 cases lkA L x <;> rfl
theorem Ztv {a b : ByteArray} (h : a.data.toList = b.data.toList) : a = b := ByteArray.ext (Array.ext' h)
theorem MapIs.run_lay {g : Nat} {L : List (ByteArray × Int)} (h : MapIs w g L) (x : ByteArray) (a : Int) (hn : lkA L x = none) : ∃ w', (Instr.mapUpdate 95 (.map (some g)) (.string x) (.int .i64 a)).run Tryz.prog w = .ok () w' ∧ Kept (fun q => q = g) w w' ∧ MapIs w' g (L ++ [(x, a)]) := by
 obtain ⟨clk, es, hm, hl⟩ := h
 have hs : x = ⟨x.data.toList.toArray⟩ := by cases x; simp
 obtain ⟨clk', hU⟩ := Go.Proofs.YtgoabnehdmdikaaGreatDoor.run_lay Ztg w g clk es hm x.data.toList a
 rw [show cN.enc x.data.toList = .string x by show Value.string _ = _; rw [← hs]] at hU
 refine ⟨_, hU, Zp3 w g _, clk', _, Zp2 w g _ (Array.getElem?_eq_some_iff.1 hm).1, fun y => ?_⟩
 rw [Zi6, Zjp]
 by_cases hy : y = x
 ·rw [if_pos (by rw [hy]), hy, hn, if_pos rfl]
 ·rw [if_neg (fun e => hy (Ztv e)), hl y]
  cases lkA L y with
  | none => simp only; rw [if_neg hy]
  | some z => rfl
end Go.Proofs.YtgoabnehdmdikaaGreatDoor
namespace Go.Proofs.YtgoabnehdmdikaaGreatDoor
open Go.RowKit
def fnC (f : Fnc) (c : Value) : List Value := [.int .i64 f.a, .int .i64 f.l, .int .i64 f.r, c]
def Zw : List Fnc → List Value → List Value
 | f :: fs, c :: cs => fnC f c ++ Zw fs cs
 | _, _ => []
theorem Zbu : ∀ (fs : List Fnc) (cs : List Value) (f : Fnc) (c : Value), cs.length = fs.length → Zw (fs ++ [f]) (cs ++ [c]) = Zw fs cs ++ fnC f c
 | [], [], f, c, _ => by simp [Zw]
 | [], _ :: _, f, c, h => by simp at h
 | _ :: _, [], f, c, h => by simp at h
 | g :: fs, d :: cs, f, c, h => by
  rw [List.cons_append, List.cons_append, Zw, Zw, Zbu fs cs f c (by simpa using h), List.append_assoc]
theorem Zal : ∀ (fs : List Fnc) (cs : List Value) (i : Nat) (f : Fnc) (c : Value), fs[i]? = some f → cs[i]? = some c → ∀ j, j < 4 → (Zw fs cs)[i * 4 + j]? = (fnC f c)[j]?
 | g :: fs, d :: cs, 0, f, c, h1, h2, j, hj => by
  simp at h1 h2
  subst h1
  subst h2
  rw [Zw, List.getElem?_append_left (by show 0 * 4 + j < 4; omega)]
  congr 1
  omega
 | g :: fs, d :: cs, i + 1, f, c, h1, h2, j, hj => by
  rw [Zw, List.getElem?_append_right (by show 4 ≤ (i + 1) * 4 + j; omega)]
  have : (i + 1) * 4 + j - (fnC g d).length = i * 4 + j := by show (i + 1) * 4 + j - 4 = _; omega
  rw [this]
  exact Zal fs cs i f c (by simpa using h1) (by simpa using h2) j hj
 | [], _, i, f, c, h1, _, _, _ => by simp at h1
 | _ :: _, [], i, f, c, _, h2, _, _ => by simp at h2
theorem Zfh (fs : List Fnc) (cs : List Value) (f : Fnc) (c c' : Value) (h : cs.length = fs.length) : (Zw (fs ++ [f]) (cs ++ [c])).set (fs.length * 4 + 3) c' = Zw (fs ++ [f]) (cs ++ [c']) := by
 rw [Zbu fs cs f c h, Zbu fs cs f c' h]
 have hl : (Zw fs cs).length = fs.length * 4 := by
  clear c c' f
  revert cs
  induction fs with
  | nil => intro cs h; cases cs with
   | nil => rfl
   | cons _ _ => simp at h
  | cons g fs ih => intro cs h; cases cs with
   | nil => simp at h
   | cons d cs =>
    rw [Zw, List.length_append, ih cs (by simpa using h)]
    show 4 + _ = _
    simp only [List.length_cons]
    omega
 rw [List.set_append_right _ _ (by omega), hl]
 congr 1
 rw [show fs.length * 4 + 3 - fs.length * 4 = 3 by omega]
 rfl
theorem Zaw : ∀ (fs gs : List Fnc) (cs : List Value), fs.map (fun f => (f.a, f.l, f.r)) = gs.map (fun f => (f.a, f.l, f.r)) → Zw fs cs = Zw gs cs
 | [], [], cs, _ => rfl
 | [], g :: gs, cs, h => by simp at h
 | f :: fs, [], cs, h => by simp at h
 | f :: fs, g :: gs, [], h => by simp [Zw]
 | f :: fs, g :: gs, c :: cs, h => by
  simp only [List.map_cons, List.cons.injEq, Prod.mk.injEq] at h
  obtain ⟨⟨h1, h2, h3⟩, h4⟩ := h
  rw [Zw, Zw, Zaw fs gs cs h4]
  unfold fnC
  rw [h1, h2, h3]
def Yj (f : Fnc) : Nat × List Value := (f.code.length, Zn f.code)
def mpV (g : Nat) : Value := .map (some g)
def wtC (m : Nat) (x : Wt) : List Value := [.int .i64 x.ln, .int .i64 (x.fn : Int), .int .i64 (x.pl : Int), .string x.nm, .map (some m)]
def wtM (gm : Nat) (GM : List Nat) (x : Wt) : Nat := if x.jump = true then GM.getD x.fn 0 else gm
def Zac (gm : Nat) (GM : List Nat) (ws : List Wt) : List Value := ws.flatMap (fun x => wtC (wtM gm GM x) x)
theorem Zjr (gm : Nat) (GM : List Nat) (ws : List Wt) (x : Wt) : Zac gm GM (ws ++ [x]) = Zac gm GM ws ++ wtC (wtM gm GM x) x := by simp [Zac]
theorem Zfi (gm : Nat) (GM : List Nat) (g : Nat) : ∀ (ws : List Wt), (∀ x ∈ ws, x.fn < GM.length) → Zac gm (GM ++ [g]) ws = Zac gm GM ws
 | [], _ => rfl
 | x :: ws, h => by
  have e : ∀ G, Zac gm G (x :: ws) = wtC (wtM gm G x) x ++ Zac gm G ws := fun G => by simp [Zac]
  rw [e, e, Zfi gm GM g ws (fun y hy => h y (List.mem_cons_of_mem _ hy))]
  congr 2
  unfold wtM
  rw [List.getD_eq_getElem?_getD, List.getD_eq_getElem?_getD, List.getElem?_append_left (h x List.mem_cons_self)]
structure RdZ (w0 w : World) (r : Nat) (R : Rdr) (NL : List (ByteArray × Int)) (dv fv lv wv : Value) (gm : Nat) (CV : List Value) (GM : List Nat) : Prop where
 box : w.heap[r]? = some (.cells #[.int .i64 R.mem, dv, fv, .bool R.sized, .map (some gm), lv, wv] 99 (0, 0))
 data : w.ownsRow w0.heap.size 5 1 dv R.data.length (Zo R.data)
 fns : w.ownsRow w0.heap.size 78 4 fv R.fs.length (Zw R.fs CV)
 code : Fam w w0.heap.size 75 2 CV (R.fs.map Yj)
 mps : w.ownsRow w0.heap.size 95 1 lv GM.length (GM.map mpV)
 maps : ∀ (i g : Nat) (f : Fnc), GM[i]? = some g → R.fs[i]? = some f → MapIs w g f.ls
 names : MapIs w gm NL
 nodup : (gm :: GM).Nodup
 newer : ∀ g ∈ gm :: GM, w0.heap.size ≤ g
 wts : w.ownsRow w0.heap.size 135 5 wv R.ws.length (Zac gm GM R.ws)
 kept : Kept nF w0 w
 lo : w0.heap.size ≤ r
structure RdX (w0 w : World) (r : Nat) (R : Rdr) (dv fv lv wv : Value) (gm : Nat) (CV : List Value) (GM : List Nat) : Prop extends RdZ w0 w r R (nmL 0 R.fs) dv fv lv wv gm CV GM where
 glen : GM.length = R.fs.length
def RdG (w0 w : World) (r : Nat) (R : Rdr) : Prop := ∃ dv fv lv wv gm CV GM, RdX w0 w r R dv fv lv wv gm CV GM
variable {w0 w w' : World} {r gm : Nat} {R : Rdr} {NL : List (ByteArray × Int)} {dv fv lv wv : Value} {CV : List Value} {GM : List Nat}
theorem RdZ.same (h : RdZ w0 w r R NL dv fv lv wv gm CV GM) (hk : Kept nF w w') : RdZ w0 w' r R NL dv fv lv wv gm CV GM :=
 ⟨Zc hk h.box id, hk.ownsRow h.data (fun _ _ f => f), hk.ownsRow h.fns (fun _ _ f => f), h.code.same hk, hk.ownsRow h.mps (fun _ _ f => f), fun i g f h1 h2 => (h.maps i g f h1 h2).same hk, h.names.same hk, h.nodup, h.newer, hk.ownsRow h.wts (fun _ _ f => f), h.kept.trans hk, h.lo⟩
theorem RdX.same (h : RdX w0 w r R dv fv lv wv gm CV GM) (hk : Kept nF w w') : RdX w0 w' r R dv fv lv wv gm CV GM := ⟨h.toRdZ.same hk, h.glen⟩
theorem RdG.same (h : RdG w0 w r R) (hk : Kept nF w w') : RdG w0 w' r R := by
 obtain ⟨dv, fv, lv, wv, gm, CV, GM, hX⟩ := h
 exact ⟨_, _, _, _, _, _, _, hX.same hk⟩
theorem RdZ.clen (h : RdZ w0 w r R NL dv fv lv wv gm CV GM) : CV.length = R.fs.length := by rw [h.code.len, List.length_map]
def OthG (w w' : World) : Prop := ∀ (q : Nat) (cs : Array Value) (t : TypeId), w.heap[q]? = some (.cells cs t (0, 0)) → t = 9 ∨ t = 130 → w'.heap[q]? = some (.cells cs t (0, 0))
theorem OthG.trans {a b c : World} (h : OthG a b) (k : OthG b c) : OthG a c := fun q cs t hq ht => k q cs t (h q cs t hq ht) ht
theorem OthG.refl (w : World) : OthG w w := fun _ _ _ h _ => h
theorem Kept.othG (h : Kept nF w w') : OthG w w' := fun q cs t hq _ => Zc h hq id
theorem Zdi {S : Nat → Prop} {t : TypeId} (hk : Kept S w w') (hc : Ch w S t) (hne : t ≠ 9 ∧ t ≠ 130) : OthG w w' := fun q cs t' hq ht => Zah hk hc hq (fun e => by
 rcases ht with h | h
 ·exact hne.1 (e.trans h)
 ·exact hne.2 (e.trans h))
theorem MapIs.othG {g : Nat} {L : List (ByteArray × Int)} (h : MapIs w g L) (hk : Kept (fun q => q = g) w w') : OthG w w' := fun q cs t' hq _ => h.box hk hq
structure RdY (w0 w : World) (R : Rdr) (NL : List (ByteArray × Int)) (dv fv lv wv : Value) (gm : Nat) (CV : List Value) (GM : List Nat) : Prop where
 data : w.ownsRow w0.heap.size 5 1 dv R.data.length (Zo R.data)
 fns : w.ownsRow w0.heap.size 78 4 fv R.fs.length (Zw R.fs CV)
 code : Fam w w0.heap.size 75 2 CV (R.fs.map Yj)
 mps : w.ownsRow w0.heap.size 95 1 lv GM.length (GM.map mpV)
 maps : ∀ (i g : Nat) (f : Fnc), GM[i]? = some g → R.fs[i]? = some f → MapIs w g f.ls
 names : MapIs w gm NL
 nodup : (gm :: GM).Nodup
 newer : ∀ g ∈ gm :: GM, w0.heap.size ≤ g
 wts : w.ownsRow w0.heap.size 135 5 wv R.ws.length (Zac gm GM R.ws)
theorem RdZ.rest (h : RdZ w0 w r R NL dv fv lv wv gm CV GM) : RdY w0 w R NL dv fv lv wv gm CV GM := ⟨h.data, h.fns, h.code, h.mps, h.maps, h.names, h.nodup, h.newer, h.wts⟩
theorem RdY.with (h : RdY w0 w R NL dv fv lv wv gm CV GM) (hb : w.heap[r]? = some (.cells #[.int .i64 R.mem, dv, fv, .bool R.sized, .map (some gm), lv, wv] 99 (0, 0))) (hk : Kept nF w0 w) (hl : w0.heap.size ≤ r) : RdZ w0 w r R NL dv fv lv wv gm CV GM :=
 ⟨hb, h.data, h.fns, h.code, h.mps, h.maps, h.names, h.nodup, h.newer, h.wts, hk, hl⟩
theorem RdY.ch {S : Nat → Prop} {t : TypeId} (h : RdY w0 w R NL dv fv lv wv gm CV GM) (hk : Kept S w w') (hc : Ch w S t) (hne : t ≠ 5 ∧ t ≠ 78 ∧ t ≠ 75 ∧ t ≠ 95 ∧ t ≠ 135) : RdY w0 w' R NL dv fv lv wv gm CV GM :=
 ⟨Zi hk hc h.data hne.1, Zi hk hc h.fns hne.2.1, h.code.ch hk hc hne.2.2.1, Zi hk hc h.mps hne.2.2.2.1, fun i g f h1 h2 => (h.maps i g f h1 h2).ch hk hc, h.names.ch hk hc, h.nodup, h.newer, Zi hk hc h.wts hne.2.2.2.2⟩
theorem RdZ.store {S : Nat → Prop} {t : TypeId} {R' : Rdr} {w5 : World} {dv' fv' lv' wv' : Value} {CV' : List Value} {GM' : List Nat} (h : RdZ w0 w r R NL dv fv lv wv gm CV GM) (hk : Kept S w w5) (hc : Ch w S t) (hne : t ≠ 99 ∧ t ≠ 9 ∧ t ≠ 130) (hS : ∀ q, S q → w0.heap.size ≤ q) (hy : RdY w0 w5 R' NL dv' fv' lv' wv' gm CV' GM') (i : Nat) (v : Value)
  (hb : #[.int .i64 R'.mem, dv', fv', .bool R'.sized, .map (some gm), lv', wv'] = (#[.int .i64 R.mem, dv, fv, .bool R.sized, .map (some gm), lv, wv] : Array Value).setIfInBounds i v) :
  OthG w w5 ∧ w5.heap[r]? = some (.cells #[.int .i64 R.mem, dv, fv, .bool R.sized, .map (some gm), lv, wv] 99 (0, 0)) ∧ RdZ w0 (w5.setCell ⟨r, i, none⟩ v) r R' NL dv' fv' lv' wv' gm CV' GM' ∧ OthG w5 (w5.setCell ⟨r, i, none⟩ v) := by
 have hb5 := Zah hk hc h.box hne.1
 have hs := Zg w5 r i v
 have hcb := Yx hb5
 refine ⟨Zdi hk hc hne.2, hb5, (hy.ch hs hcb (by decide)).with ?_ ((h.kept.step hk (fun q hq e => by have := hS q e; omega)).setCell (.inl h.lo) _) h.lo, Zdi hs hcb (by decide)⟩
 rw [Zf _ _ i _ _ _ hb5 v, hb]
theorem Zjs (h : RdZ w0 w r R NL dv fv lv wv gm CV GM) (hl : R.fs.length ≤ 90000) : Calls Tryz.prog 83 #[.pointer (some ⟨r, 0, none⟩)] w fun e w' => e = .returned (.bool (decide (R.fs ≠ []))) ∧ w' = w := by
 obtain ⟨fa, fc, hfv⟩ := Zd h.fns
 have c2 := Zb _ _ 2 _ _ _ h.box
 obtain ⟨n, hn⟩ := nmd (R.fs.length)
 rw [← hn] at hfv
 obtain ⟨q, hq⟩ := nmd (decide (R.fs ≠ []))
 have hqn : q = decide (0 < n) := by
  rw [hq, hn, decide_eq_decide]
  exact ⟨fun h => List.length_pos_iff.2 h, fun h => List.length_pos_iff.1 h⟩
 rw [← hq]
 have HQ : Hid (q = decide (0 < n)) := hqn
 subst hfv
 have hnb : (n : Int) ≤ 90000 := by omega
 clear h hn hq hqn
 go_enter Tryz.func83, Tryz.ntmps83
 go_wp2
 go_ret
 exact ⟨by rw [HQ.out]; rfl, rfl⟩
theorem Zgy (h : RdZ w0 w r R NL dv fv lv wv gm CV GM) (gs : List Fnc) (f : Fnc) (hf : R.fs = gs ++ [f]) (hl : gs.length ≤ 90000) : Calls Tryz.prog 120 #[.pointer (some ⟨r, 0, none⟩)] w fun e w' => e = .returned (.int .i64 (gs.length : Int)) ∧ w' = w := by
 obtain ⟨fa, fc, hfv⟩ := Zd h.fns
 have c2 := Zb _ _ 2 _ _ _ h.box
 obtain ⟨n, hn⟩ := nmd (R.fs.length)
 rw [← hn] at hfv
 rw [hf, List.length_append] at hn
 obtain ⟨m, hm⟩ := nmd (gs.length)
 rw [← hm] at hn hl ⊢
 have hn : n = m + 1 := hn
 subst hn
 subst hfv
 clear h hm hf
 go_enter Tryz.func120, Tryz.ntmps120
 go_wp2
 go_ret
 exact ⟨by go_num, rfl⟩
end Go.Proofs.YtgoabnehdmdikaaGreatDoor
namespace Go.Proofs.YtgoabnehdmdikaaGreatDoor
open Go.RowKit
def MethR (w0 w : World) (r : Nat) (o : RR) (e : Ending) (w' : World) : Prop :=
 Kept nF w0 w' ∧ ((∃ R', o = .good R' ∧ e = .returned (.int .i64 0) ∧ RdG w0 w' r R' ∧ OthG w w') ∨ (∃ n, o = .bad n ∧ e = .returned (.int .i64 n)))
theorem MethR.from {w0 w w1 w' : World} {r : Nat} {o : RR} {e : Ending} (h : MethR w0 w1 r o e w') (ho : OthG w w1) : MethR w0 w r o e w' := by
 obtain ⟨hk, h | h⟩ := h
 ·obtain ⟨R', h1, h2, h3, h4⟩ := h
  exact ⟨hk, .inl ⟨R', h1, h2, h3, ho.trans h4⟩⟩
 ·exact ⟨hk, .inr h⟩
variable {w0 w : World} {r gm : Nat} {R : Rdr} {dv fv lv wv : Value} {CV : List Value} {GM : List Nat}
theorem Xi {w : World} {g r : Nat} {cs cs' : Array Value} {t t' : TypeId} {f f' : Nat × Nat} (h : w.heap[g]? = some (.cells cs t f)) (h' : w.heap[r]? = some (.cells cs' t' f')) (hne : t ≠ t') : ¬ g = r := fun e => by
 rw [e, h'] at h
 simp only [Option.some.injEq, Obj.cells.injEq] at h
 exact hne h.2.1.symm
theorem RdX.mem (h : RdX w0 w r R dv fv lv wv gm CV GM) (n : Int) : RdX w0 ((w.setCell ⟨r, 3, none⟩ (.bool true)).setCell ⟨r, 0, none⟩ (.int .i64 n)) r ⟨n, true, R.data, R.fs, R.ws⟩ dv fv lv wv gm CV GM ∧ OthG w ((w.setCell ⟨r, 3, none⟩ (.bool true)).setCell ⟨r, 0, none⟩ (.int .i64 n)) := by
 have hb1 := Zf _ _ 3 _ _ _ h.box (.bool true)
 have hb2 := Zf _ _ 0 _ _ _ hb1 (.int .i64 n)
 have hk1 := Zg w r 3 (.bool true)
 have hk2 := Zg (w.setCell ⟨r, 3, none⟩ (.bool true)) r 0 (.int .i64 n)
 have hk := hk1.trans hk2
 have hc := Yx h.box
 exact ⟨⟨(show RdY w0 _ ⟨n, true, R.data, R.fs, R.ws⟩ (nmL 0 R.fs) dv fv lv wv gm CV GM from ⟨(h.rest.ch hk hc (by decide)).data, (h.rest.ch hk hc (by decide)).fns, (h.rest.ch hk hc (by decide)).code, (h.rest.ch hk hc (by decide)).mps, (h.rest.ch hk hc (by decide)).maps, (h.rest.ch hk hc (by decide)).names, h.nodup, h.newer, (h.rest.ch hk hc (by decide)).wts⟩).with hb2 (h.kept.step hk (fun i hi e => by have := h.lo; omega)) h.lo, h.glen⟩, Zdi hk hc (by decide)⟩
theorem Ztw (g o n c : Nat) (ps : List Pf) (cs : Array Value) (h : RdX w0 w r R dv fv lv wv gm CV GM) (hP : FsAt w g o ps) (hg : w.heap[g]? = some (.cells cs 130 (0, 0))) (hn : n = ps.length) (hl : R.fs.length ≤ 90000) (hnl : n ≤ 90000) :
  Calls Tryz.prog 55 #[.pointer (some ⟨r, 0, none⟩), .slice (some ⟨g, o, none⟩) n c] w (MethR w0 w r (Zch R ps)) := by
 have hka : Kept nF w (w.alloc (.cells #[.int .i64 1] 3)) := (Kept.refl _ _).alloc _
 have hba := heap_alloc_new w (.cells #[.int .i64 1] 3)
 have HF := Za (Zgd g o n c w.heap.size 1 1 ps [1] (w.alloc (.cells #[.int .i64 1] 3)) (hP.kept hka id) (fun i x hx => by
  rw [Zb _ _ i _ _ _ hba]
  rcases i with _ | i <;> simp at hx ⊢ <;> exact hx) hn rfl hnl (by omega))
 have HBG := Za (Zjs h.toRdZ hl)
 have c3 := Zb _ _ 3 _ _ _ h.box
 have HKA := Za hka
 have HKW := Za h.kept
 by_cases hs : R.sized = true
 ·have HE : Zch R ps = .bad 141 := if_pos (.inl hs)
  rw [HE]
  rw [hs] at c3
  clear h hba hka HE hs
  go_enter Tryz.func55, Tryz.ntmps55
  go_wp2
  go_ret
  exact ⟨HKW.out, .inr ⟨_, rfl, rfl⟩⟩
 have hs' : R.sized = false := by simpa using hs
 rw [hs'] at c3
 by_cases hf : R.fs = []
 ·rw [decide_eq_false (by simpa using hf)] at HBG
  by_cases hk : ps.map Pf.k = [1]
  ·rw [decide_eq_true hk] at HF
   obtain ⟨p, rfl⟩ : ∃ p, ps = [p] := by
    have := congrArg List.length hk
    simp only [List.length_map, List.length_cons, List.length_nil] at this
    exact List.length_eq_one_iff.1 this
   have HTF : Hid (∀ w1, Kept nF w w1 → Calls Tryz.prog 85 #[.slice (some ⟨g, o, none⟩) n c] w1 fun e w' => e = .returned (.bool (([p] : List Pf).any Pf.f)) ∧ Kept nF w1 w') := fun w1 hk1 => Zh3 g o n c [p] w1 (hP.kept hk1 id) hn hnl
   by_cases hfar : ([p] : List Pf).any Pf.f = true
   ·have HE : Zch R [p] = .bad 143 := by
     unfold Zch
     rw [if_neg (by rw [hs']; simp [hf, hk]), if_pos hfar]
    rw [HE]
    rw [hfar] at HTF
    clear h hba hka HE hs hs' hf hk hfar hP hg hn
    go_enter Tryz.func55, Tryz.ntmps55
    go_wp2_with fail
    refine HBG.out.mono ?_
    rintro e w1 ⟨rfl, hw⟩
    have hw := hw.symm
    subst hw
    go_wp2_with fail
    refine HF.out.mono ?_
    rintro e w2 ⟨rfl, hk2⟩
    have HK2 := Za (HKA.out.trans hk2)
    clear hk2 HF
    go_wp2_with fail
    refine (HTF.out _ HK2.out).mono ?_
    rintro e w3 ⟨rfl, hk3⟩
    have HK3 := Za (HK2.out.trans hk3)
    clear hk3 HK2
    go_wp2
    go_ret
    exact ⟨HKW.out.trans HK3.out, .inr ⟨_, rfl, rfl⟩⟩
   ·have hfar' : ([p] : List Pf).any Pf.f = false := by simpa using hfar
    have HE : Zch R [p] = .good ⟨p.n, true, R.data, R.fs, R.ws⟩ := by
     unfold Zch
     rw [if_neg (by rw [hs']; simp [hf, hk]), if_neg hfar]
     rfl
    rw [HE]
    rw [hfar'] at HTF
    have HX := Za h
    have hn1 : n = 1 := hn
    have HP0 := Za (hP 0 p rfl)
    have HGG := Za hg
    subst hn1
    clear h hba hka HE hs hs' hf hk hfar hfar' hP hg hn
    go_enter Tryz.func55, Tryz.ntmps55
    go_wp2_with fail
    refine HBG.out.mono ?_
    rintro e w1 ⟨rfl, hw⟩
    have hw := hw.symm
    subst hw
    go_wp2_with fail
    refine HF.out.mono ?_
    rintro e w2 ⟨rfl, hk2⟩
    have HK2 := Za (HKA.out.trans hk2)
    clear hk2 HF
    go_wp2_with fail
    refine (HTF.out _ HK2.out).mono ?_
    rintro e w3 ⟨rfl, hk3⟩
    have HK3 := Za (HK2.out.trans hk3)
    clear hk3 HK2 c3
    have HX3 := Za (HX.out.same HK3.out)
    obtain ⟨b0, b1, b2, b3, b4, b5, b6, f2, f5⟩ := Zxh HX3.out.box
    have f0 := Ze _ _ 0 _ _ HX3.out.box
    have f3 := Ze _ _ 3 _ _ HX3.out.box
    have hne : ¬ g = r := Xi (Zc HK3.out HGG.out id) HX3.out.box (by decide)
    have p2 : w3.cell? ⟨g, o + 2, none⟩ = some (.int .i64 p.n) := by
     have := HK3.out.cell (HP0.out 2 (.int .i64 p.n) rfl) id
     simpa using this
    have HFIN := Za (HX3.out.mem p.n)
    have hb4 := Zf _ _ 3 _ _ _ HX3.out.box (.bool true)
    have x0 := Zb _ _ 0 _ _ _ hb4
    have y0 := Ze _ _ 0 _ _ hb4
    have p3 : (w3.setCell ⟨r, 3, none⟩ (.bool true)).cell? ⟨g, o + 2, none⟩ = some (.int .i64 p.n) := (Zg w3 r 3 (.bool true)).cell p2 hne
    clear hb4 b1 b2 b4 b5 b6 f2 f5
    go_wp2
    go_ret
    exact ⟨HFIN.out.1.kept, .inl ⟨_, rfl, rfl, ⟨_, _, _, _, _, _, _, HFIN.out.1⟩, (Kept.othG HK3.out).trans HFIN.out.2⟩⟩
  ·have HE : Zch R ps = .bad 141 := if_pos (.inr (.inr hk))
   rw [HE]
   rw [decide_eq_false hk] at HF
   clear h hba hka HE hs hs' hf hk hP hg hn
   go_enter Tryz.func55, Tryz.ntmps55
   go_wp2_with fail
   refine HBG.out.mono ?_
   rintro e w1 ⟨rfl, hw⟩
   have hw := hw.symm
   subst hw
   go_wp2_with fail
   refine HF.out.mono ?_
   rintro e w2 ⟨rfl, hk2⟩
   have HK2 := Za (HKA.out.trans hk2)
   clear hk2 HF
   go_wp2
   go_ret
   exact ⟨HKW.out.trans HK2.out, .inr ⟨_, rfl, rfl⟩⟩
 ·have HE : Zch R ps = .bad 141 := if_pos (.inr (.inl hf))
  rw [HE]
  rw [decide_eq_true hf] at HBG
  clear h hba hka HE hs hs' hf hP hg hn HF
  go_enter Tryz.func55, Tryz.ntmps55
  go_wp2_with fail
  refine HBG.out.mono ?_
  rintro e w1 ⟨rfl, hw⟩
  have hw := hw.symm
  subst hw
  go_wp2
  go_ret
  exact ⟨HKW.out, .inr ⟨_, rfl, rfl⟩⟩
theorem Zh9 (s : ByteArray) : Zo (Xy s) = Lib.strCells s := by
 unfold Zo Xy Lib.strCells
 rw [List.map_map]
 rfl
theorem RdX.pushD (h : RdX w0 w r R dv fv lv wv gm CV GM) (s : ByteArray) (hl : R.data.length + s.size ≤ 140737488355328) : ∃ a m c w5, (Builtin.append_ #[23, 9] 23 #[dv, .string s]).run Tryz.prog w = .ok (.slice a m c) w5 ∧ Kept (fun q => dv.ownBlock = some q) w w5 ∧ OthG w w5 ∧
  w5.heap[r]? = some (.cells #[.int .i64 R.mem, dv, fv, .bool R.sized, .map (some gm), lv, wv] 99 (0, 0)) ∧
  RdX w0 (w5.setCell ⟨r, 1, none⟩ (.slice a m c)) r ⟨R.mem, R.sized, R.data ++ Xy s, R.fs, R.ws⟩ (.slice a m c) fv lv wv gm CV GM ∧ OthG w5 (w5.setCell ⟨r, 1, none⟩ (.slice a m c)) := by
 obtain ⟨i0, hi, hz0, hz1, hz2⟩ := info_parts Tryz.info5
 obtain ⟨v', w5, hr, h2, h3, h4⟩ := Lib.run_append_own_string (P := Tryz.prog) w w0.heap.size 23 9 23 5 i0 Tryz.underlying23 Tryz.underlying9 hi hz0 hz1 hz2 dv R.data.length (Zo R.data) h.data s (by unfold maxLen; omega) (by omega) h.kept.size
 have hk1 : Kept (fun q => dv.ownBlock = some q) w w5 := (Kept.refl _ w).grown h3 (fun k hk => .inr hk)
 obtain ⟨a, q, rfl⟩ := Zd h2
 have hc := Yz h.data
 have hy : RdY w0 w5 ⟨R.mem, R.sized, R.data ++ Xy s, R.fs, R.ws⟩ (nmL 0 R.fs) (.slice a (R.data.length + s.size) q) fv lv wv gm CV GM := by
  refine ⟨?_, Zi hk1 hc h.fns (by decide), h.code.ch hk1 hc (by decide), Zi hk1 hc h.mps (by decide), fun i g f h1 h2 => (h.maps i g f h1 h2).ch hk1 hc, h.names.ch hk1 hc, h.nodup, h.newer, Zi hk1 hc h.wts (by decide)⟩
  show w5.ownsRow _ _ _ _ (R.data ++ Xy s).length (Zo (R.data ++ Xy s))
  have : Zo (R.data ++ Xy s) = Zo R.data ++ Lib.strCells s := by rw [← Zh9]; simp [Zo]
  rw [this, List.length_append, show (Xy s).length = s.size by unfold Xy; rw [List.length_map, Lib.size_eq]]
  exact h2
 obtain ⟨h5, h6, h7, h8⟩ := h.toRdZ.store hk1 hc (by decide) (fun q hq => (h.data.lt q hq).1) hy 1 (.slice a (R.data.length + s.size) q) rfl
 exact ⟨_, _, _, w5, hr, hk1, h5, h6, ⟨h7, h.glen⟩, h8⟩
theorem Zwy (g o n c : Nat) (ps : List Pf) (cs : Array Value) (h : RdX w0 w r R dv fv lv wv gm CV GM) (hP : FsAt w g o ps) (hg : w.heap[g]? = some (.cells cs 130 (0, 0))) (hn : n = ps.length) (hl : R.fs.length ≤ 90000) (hnl : n ≤ 90000) (hd : R.data.length ≤ 100000000000000) (hss : ∀ p ∈ ps, p.s.size ≤ 65536) :
  Calls Tryz.prog 56 #[.pointer (some ⟨r, 0, none⟩), .slice (some ⟨g, o, none⟩) n c] w (MethR w0 w r (Zdd R ps)) := by
 have hka : Kept nF w (w.alloc (.cells #[.int .i64 2] 3)) := (Kept.refl _ _).alloc _
 have hba := heap_alloc_new w (.cells #[.int .i64 2] 3)
 have HF := Za (Zgd g o n c w.heap.size 1 1 ps [2] (w.alloc (.cells #[.int .i64 2] 3)) (hP.kept hka id) (fun i x hx => by
  rw [Zb _ _ i _ _ _ hba]
  rcases i with _ | i <;> simp at hx ⊢ <;> exact hx) hn rfl hnl (by omega))
 have HBG := Za (Zjs h.toRdZ hl)
 have HKA := Za hka
 have HKW := Za h.kept
 by_cases hf : R.fs = []
 ·rw [decide_eq_false (by simpa using hf)] at HBG
  by_cases hk : ps.map Pf.k = [2]
  ·rw [decide_eq_true hk] at HF
   obtain ⟨p, rfl⟩ : ∃ p, ps = [p] := by
    have := congrArg List.length hk
    simp only [List.length_map, List.length_cons, List.length_nil] at this
    exact List.length_eq_one_iff.1 this
   have HE : Zdd R [p] = .good ⟨R.mem, R.sized, R.data ++ Xy p.s, R.fs, R.ws⟩ := by
    unfold Zdd
    rw [if_neg (by simp [hf]; simpa using hk)]
    rfl
   rw [HE]
   have HX := Za h
   have hn1 : n = 1 := hn
   have HP0 := Za (hP 0 p rfl)
   have HGG := Za hg
   have HSS : Hid (p.s.size ≤ 65536) := hss p List.mem_cons_self
   have HDL := Za hd
   subst hn1
   clear h hba hka HE hf hk hP hg hn hss hd
   go_enter Tryz.func56, Tryz.ntmps56
   go_wp2_with fail
   refine HBG.out.mono ?_
   rintro e w1 ⟨rfl, hw⟩
   have hw := hw.symm
   subst hw
   go_wp2_with fail
   refine HF.out.mono ?_
   rintro e w2 ⟨rfl, hk2⟩
   have HK2 := Za (HKA.out.trans hk2)
   clear hk2 HF HKA
   go_upto_region 3 with fail
   have HKd := Za (HK2.out.drew)
   have HXd := Za (HX.out.same HKd.out)
   refine wp_region_held_drew (S := fun w' => Kept (fun q => dv.ownBlock = some q ∨ q = r) w2.drew w') (by kernel_rfl) (Kept.refl _ _) (fun qh => ?_)
   generalize w2.drew = wd at *
   have hne : ¬ g = r := Xi (Zc HKd.out HGG.out id) HXd.out.box (by decide)
   have hngd : dv.ownBlock ≠ some g := fun e => Zs HXd.out.data (Zc HKd.out HGG.out id) (by decide) e
   have hnrd : dv.ownBlock ≠ some r := fun e => Zs HXd.out.data HXd.out.box (by decide) e
   have hp1 : wd.cell? ⟨g, o + 1, none⟩ = some (.string p.s) := by
    have := HKd.out.cell (HP0.out 1 (.string p.s) rfl) id
    simpa using this
   have HSM : Hid (∀ w', Kept (fun q => dv.ownBlock = some q ∨ q = r) wd w' → w'.cell? ⟨g, o + 1, none⟩ = some (.string p.s)) := fun w' hw => hw.cell hp1 (fun e => e.elim hngd hne)
   have l1 := Zb _ _ 1 _ _ _ HXd.out.box
   obtain ⟨a, m, c5, w5, hr, hk5, ho5, hb5, hx5, ho6⟩ := HXd.out.pushD p.s (by have := HSS.out; have := HDL.out; omega)
   have HR := Za hr
   have HK5 := Za (hk5.mono (T := fun q => dv.ownBlock = some q ∨ q = r) (fun _ _ e => .inl e))
   have HK6 := Za (HK5.out.setCell (p := ⟨r, 1, none⟩) (.inr (.inr rfl)) (.slice a m c5))
   have HO := Za ((Kept.othG HKd.out).trans (ho5.trans ho6))
   have HX5 := Za hx5
   have q1 := Zb _ _ 1 _ _ _ hb5
   have f1 := Ze _ _ 1 _ _ hb5
   obtain ⟨da, dc, hdv⟩ := Zd HXd.out.data
   obtain ⟨dn, hdn⟩ := nmd (R.data.length)
   rw [← hdn] at hdv
   subst hdv
   clear hr hk5 ho5 hb5 hx5 ho6 hp1 hngd hnrd hne hdn
   iterate 5
    refine tkn (v := ?_) 0 rfl ?_ ?_; rotate_left
    ·intro w hSw; go_simp; try with_reducible rfl
    try simp only [Act.put, tdy]
   iterate 3
    refine tkn (v := ?_) 6 rfl ?_ ?_; rotate_left
    ·intro w hSw; go_simp; try with_reducible rfl
    try simp only [Act.put, tdy]
   iterate 1
    refine tkn (v := ?_) 9 rfl ?_ ?_; rotate_left
    ·intro w hSw; have s1 := HSM.out w hSw; go_simp; try with_reducible rfl
    try simp only [Act.put, tdy]
   refine rdy 5 rfl (fun K hK => ?_)
   go_simp
   refine hK.out _ _ qh (fun qh => ?_)
   clear hK K
   try simp only [Act.put, tdy]
   refine rdy 10 rfl (fun K hK => ?_)
   refine Zm rfl (.tmp 18) (.tmp 22) 23 9 rfl _ _ rfl rfl (.slice a m c5) w5 HR.out ?_
   refine hK.out _ _ HK5.out (fun qh => ?_)
   clear hK K
   try simp only [Act.put, tdy]
   iterate 3
    refine tkn (v := ?_) 11 rfl ?_ ?_; rotate_left
    ·intro w hSw; go_simp; try with_reducible rfl
    try simp only [Act.put, tdy]
   refine rdy 14 rfl (fun K hK => ?_)
   go_simp
   refine hK.out _ _ HK6.out (fun qh => ?_)
   clear hK K
   try simp only [Act.put, tdy]
   refine wpAnyH_done (by kernel_rfl) ?_ _
   go_wp2
   go_ret
   exact ⟨HX5.out.kept, .inl ⟨_, rfl, rfl, ⟨_, _, _, _, _, _, _, HX5.out⟩, HO.out⟩⟩
  ·have HE : Zdd R ps = .bad 141 := if_pos (.inr hk)
   rw [HE]
   rw [decide_eq_false hk] at HF
   clear h hba hka HE hf hk hP hg hn
   go_enter Tryz.func56, Tryz.ntmps56
   go_wp2_with fail
   refine HBG.out.mono ?_
   rintro e w1 ⟨rfl, hw⟩
   have hw := hw.symm
   subst hw
   go_wp2_with fail
   refine HF.out.mono ?_
   rintro e w2 ⟨rfl, hk2⟩
   have HK2 := Za (HKA.out.trans hk2)
   clear hk2 HF
   go_wp2
   go_ret
   exact ⟨HKW.out.trans HK2.out, .inr ⟨_, rfl, rfl⟩⟩
 ·have HE : Zdd R ps = .bad 141 := if_pos (.inl hf)
  rw [HE]
  rw [decide_eq_true hf] at HBG
  clear h hba hka HE hf hP hg hn HF
  go_enter Tryz.func56, Tryz.ntmps56
  go_wp2_with fail
  refine HBG.out.mono ?_
  rintro e w1 ⟨rfl, hw⟩
  have hw := hw.symm
  subst hw
  go_wp2
  go_ret
  exact ⟨HKW.out, .inr ⟨_, rfl, rfl⟩⟩
end Go.Proofs.YtgoabnehdmdikaaGreatDoor

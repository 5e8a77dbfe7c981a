import Derived.Test.YtpfmhibdmehlcaaGreatDoorTOx8
import Derived.Test.YtpfmhibdmehlcaaGreatDoorTOx14
import Derived.Test.YtpfmhibdmehlcaaGreatDoorTOx9
namespace Go.Proofs.YtpfmhibdmehlcaaGreatDoor
open Go.RowKit
set_option linter.unusedVariables false
set_option linter.unusedSimpArgs false
set_option maxRecDepth 100000
structure Fnc where
 nm : ByteArray
 a : Int
 l : Int
 r : Int
 ls : List (ByteArray × Int)
 code : List IN
structure Wt where
 ln : Int
 fn : Nat
 pl : Nat
 nm : ByteArray
 jump : Bool
structure Rdr where
 mem : Int
 sized : Bool
 data : List Int
 fs : List Fnc
 ws : List Wt
def lkA : List (ByteArray × Int) → ByteArray → Option Int
 | [], _ => none
 | (k, v) :: L, s => if s = k then some v else lkA L s
theorem lkA_snoc : ∀ (L : List (ByteArray × Int)) (k : ByteArray) (v : Int) (s : ByteArray), lkA (L ++ [(k, v)]) s = match lkA L s with | some x => some x | none => if s = k then some v else none
 | [], k, v, s => rfl
 | (a, b) :: L, k, v, s => by
  rw [List.cons_append, lkA, lkA]
  split
  ·rfl
  ·exact lkA_snoc L k v s
def nmL : Nat → List Fnc → List (ByteArray × Int)
 | _, [] => []
 | k, f :: fs => (f.nm, (k : Int)) :: nmL (k + 1) fs
theorem nmL_snoc : ∀ (k : Nat) (fs : List Fnc) (f : Fnc), nmL k (fs ++ [f]) = nmL k fs ++ [(f.nm, ((k + fs.length : Nat) : Int))]
 | k, [], f => by simp [nmL]
 | k, g :: fs, f => by
  rw [List.cons_append, nmL, nmL, List.cons_append, nmL_snoc (k + 1) fs f]
  congr 4
  simp
  omega
theorem nmL_same : ∀ (k : Nat) (fs gs : List Fnc), fs.map Fnc.nm = gs.map Fnc.nm → nmL k fs = nmL k gs
 | k, [], [], _ => rfl
 | k, [], g :: gs, h => by simp at h
 | k, f :: fs, [], h => by simp at h
 | k, f :: fs, g :: gs, h => by
  simp only [List.map_cons, List.cons.injEq] at h
  rw [nmL, nmL, h.1, nmL_same (k + 1) fs gs h.2]
def ixN (L : List Sh) (s : ByteArray) : Option Nat := if nameIx L s < L.length then some (nameIx L s) else none
theorem named_ix (L : List Sh) (s : ByteArray) : namedV L s = match ixN L s with | some n => .tuple #[.int .i64 (n : Int), .bool true] | none => .tuple #[.int .i64 0, .bool false] := by
 unfold namedV ixN
 by_cases h : nameIx L s < L.length
 ·rw [if_pos h, if_pos h]
 ·rw [if_neg h, if_neg h]
theorem ixN_lt {L : List Sh} {s : ByteArray} {n : Nat} (h : ixN L s = some n) : n < L.length := by
 unfold ixN at h
 by_cases h1 : nameIx L s < L.length
 ·rw [if_pos h1] at h
  cases h
  exact h1
 ·rw [if_neg h1] at h
  cases h
def operF (n : Nat) (kd : Int) : List Pf → Option (Int × Int × ByteArray)
 | [] => if kd = 0 then some ((n : Int), 0, ⟨#[]⟩) else none
 | q :: r => if kd = 0 then none else if r = [] then (if q.k = 1 then some ((n : Int), q.n, ⟨#[]⟩) else if q.k = 0 then (if kd = 3 ∨ kd = 4 then some ((n : Int), 0, q.s) else if kd = 5 then (match ixN sysL q.s with | some c => some ((n : Int), (c : Int), ⟨#[]⟩) | none => none) else none) else none) else none
def instrF : List Pf → Option (Int × Int × ByteArray)
 | [] => none
 | p :: r => if p.k = 0 then (match ixN insL p.s with | some n => operF n (rowS insL (n : Int)).o r | none => none) else none
def labF (f : Fnc) : List ByteArray → Option Fnc
 | [] => some f
 | s :: ss => if (lkA f.ls s).isSome = true then none else labF ⟨f.nm, f.a, f.l, f.r, f.ls ++ [(s, (f.code.length : Int))], f.code⟩ ss
def addW (k : Nat) (f : Fnc) (n op : Int) (w : ByteArray) : List Wt := if w = ⟨#[]⟩ then [] else [⟨n, k, f.code.length, w, !decide (op = 17)⟩]
def addC (f : Fnc) (op a : Int) : Fnc := ⟨f.nm, f.a, f.l, f.r, f.ls, f.code ++ [⟨op, a⟩]⟩
inductive RR where
 | bad (e : Int)
 | good (R : Rdr)
def codeF (R : Rdr) (gs : List Fnc) (f : Fnc) (n : Int) (ls : List ByteArray) (l : List Pf) : RR :=
 if l ≠ [] ∧ instrF l = none then .bad 141
 else if l.any Pf.f = true then .bad 143
 else match labF f ls with
  | none => .bad 142
  | some g => if l = [] then .good ⟨R.mem, R.sized, R.data, gs ++ [g], R.ws⟩ else match instrF l with
   | none => .bad 141
   | some (op, a, w) => .good ⟨R.mem, R.sized, R.data, gs ++ [addC g op a], R.ws ++ addW gs.length g n op w⟩
def codeP (R : Rdr) (n : Int) (ls : List ByteArray) (l : List Pf) : RR := match R.fs.getLast? with | none => .bad 141 | some f => codeF R R.fs.dropLast f n ls l
theorem codeP_nil (R : Rdr) (n : Int) (ls : List ByteArray) (l : List Pf) (h : R.fs = []) : codeP R n ls l = .bad 141 := by unfold codeP; rw [h]; rfl
theorem codeP_snoc (R : Rdr) (n : Int) (ls : List ByteArray) (l : List Pf) (gs : List Fnc) (f : Fnc) (h : R.fs = gs ++ [f]) : codeP R n ls l = codeF R gs f n ls l := by unfold codeP; rw [h]; simp
def memP (R : Rdr) (l : List Pf) : RR := if R.sized = true ∨ R.fs ≠ [] ∨ l.map Pf.k ≠ [1] then .bad 141 else if l.any Pf.f = true then .bad 143 else .good ⟨(l.map Pf.n).headD 0, true, R.data, R.fs, R.ws⟩
def bytI (s : ByteArray) : List Int := s.data.toList.map (fun b => (b.toNat : Int))
def datP (R : Rdr) (l : List Pf) : RR := if R.fs ≠ [] ∨ l.map Pf.k ≠ [2] then .bad 141 else .good ⟨R.mem, R.sized, R.data ++ bytI ((l.map Pf.s).headD ⟨#[]⟩), R.fs, R.ws⟩
def funP (R : Rdr) : List Pf → RR
 | [p, q1, q2, q3] => if [p.k, q1.k, q2.k, q3.k] ≠ [0, 1, 1, 1] then .bad 141 else if (p.f || (q1.f || (q2.f || q3.f))) = true then .bad 143 else if (lkA (nmL 0 R.fs) p.s).isSome = true then .bad 142 else .good ⟨R.mem, R.sized, R.data, R.fs ++ [⟨p.s, q1.n, q2.n, q3.n, [], []⟩], R.ws⟩
 | _ => .bad 141
abbrev memB : ByteArray := ⟨#[109, 101, 109, 111, 114, 121]⟩
abbrev datB : ByteArray := ⟨#[100, 97, 116, 97]⟩
abbrev funB : ByteArray := ⟨#[102, 117, 110, 99]⟩
def headP (R : Rdr) (n : Int) : List Pf → RR
 | [] => .good R
 | p :: l => if p.k ≠ 0 then .bad 141 else if p.s = memB then memP R l else if p.s = datB then datP R l else if p.s = funB then funP R l else codeP R n [] (p :: l)
def lineP (R : Rdr) (n : Int) (o : Option (List Pf)) : RR := match o with
 | none => .bad 141
 | some ps => if (labP ps).1 = [] then headP R n (labP ps).2 else codeP R n (labP ps).1 (labP ps).2
def linesP : Rdr → Int → List (List UInt8) → (Int × Int) ⊕ Rdr
 | R, _, [] => .inr R
 | R, n, l :: ls => match lineP R n (cutV l) with | .bad e => .inl (n, e) | .good R' => linesP R' (n + 1) ls
end Go.Proofs.YtpfmhibdmehlcaaGreatDoor
namespace Go.Proofs.YtpfmhibdmehlcaaGreatDoor
open Go.RowKit
set_option linter.unusedVariables false
set_option linter.unusedSimpArgs false
set_option maxRecDepth 100000
def Ch (w : World) (S : Nat → Prop) (t : TypeId) : Prop := ∀ q, S q → ∃ cs f, w.heap[q]? = some (.cells cs t f)
theorem own_is {w : World} {B e s : Nat} {v : Value} {n : Nat} {xs : List Value} (h : w.ownsRow B e s v n xs) : Ch w (fun q => v.ownBlock = some q) e := fun q hq => by
 rcases h.2 with ⟨rfl, _⟩ | ⟨g, cap, cur, rfl, _, hgg, _⟩
 ·cases hq
 ·simp [Value.ownBlock] at hq
  subst hq
  exact ⟨_, _, hgg⟩
theorem ch_box {w : World} {r : Nat} {cs : Array Value} {t : TypeId} {f : Nat × Nat} (h : w.heap[r]? = some (.cells cs t f)) : Ch w (fun q => q = r) t := fun q hq => by subst hq; exact ⟨_, _, h⟩
variable {S : Nat → Prop} {t : TypeId} {w w' : World}
theorem own_not (hc : Ch w S t) {B e s : Nat} {v : Value} {n : Nat} {xs : List Value} (h : w.ownsRow B e s v n xs) (hne : t ≠ e) : ∀ q, v.ownBlock = some q → ¬ S q := fun q hq hS => by
 obtain ⟨cs, f, e1⟩ := hc q hS
 obtain ⟨cs', f', e2⟩ := own_is h q hq
 rw [e1] at e2
 simp only [Option.some.injEq, Obj.cells.injEq] at e2
 exact hne e2.2.1
theorem own_ch (hk : Kept S w w') (hc : Ch w S t) {B e s : Nat} {v : Value} {n : Nat} {xs : List Value} (h : w.ownsRow B e s v n xs) (hne : t ≠ e) : w'.ownsRow B e s v n xs := hk.ownsRow h (own_not hc h hne)
theorem box_ch (hk : Kept S w w') (hc : Ch w S t) {g : Nat} {cs : Array Value} {t' : TypeId} {f : Nat × Nat} (hb : w.heap[g]? = some (.cells cs t' f)) (hne : t ≠ t') : w'.heap[g]? = some (.cells cs t' f) := box_kept hk hb (fun hS => by
 obtain ⟨cs', f', e1⟩ := hc g hS
 rw [hb] at e1
 simp only [Option.some.injEq, Obj.cells.injEq] at e1
 exact hne e1.2.1.symm)
structure Fam (w : World) (B e s : Nat) (vs : List Value) (xss : List (Nat × List Value)) : Prop where
 len : vs.length = xss.length
 row : ∀ (i : Nat) (v : Value) (x : Nat × List Value), vs[i]? = some v → xss[i]? = some x → w.ownsRow B e s v x.1 x.2
 apart : ∀ (i j : Nat) (v u : Value), i ≠ j → vs[i]? = some v → vs[j]? = some u → ∀ q, v.ownBlock = some q → u.ownBlock ≠ some q
variable {B e s : Nat} {vs : List Value} {xss : List (Nat × List Value)}
theorem Fam.nil : Fam w B e s [] [] := ⟨rfl, fun i v x h => by simp at h, fun i j v u _ h => by simp at h⟩
theorem Fam.at (h : Fam w B e s vs xss) {i : Nat} {v : Value} (hv : vs[i]? = some v) : ∃ x, xss[i]? = some x ∧ w.ownsRow B e s v x.1 x.2 := by
 have hi := (List.getElem?_eq_some_iff.1 hv).1
 have hx : xss[i]? = some (xss[i]'(by rw [← h.len]; exact hi)) := List.getElem?_eq_getElem _
 exact ⟨_, hx, h.row i v _ hv hx⟩
theorem Fam.ch (h : Fam w B e s vs xss) (hk : Kept S w w') (hc : Ch w S t) (hne : t ≠ e) : Fam w' B e s vs xss := ⟨h.len, fun i v x hv hx => own_ch hk hc (h.row i v x hv hx) hne, h.apart⟩
theorem Fam.same (h : Fam w B e s vs xss) (hk : Kept (fun _ => False) w w') : Fam w' B e s vs xss := ⟨h.len, fun i v x hv hx => hk.ownsRow (h.row i v x hv hx) (fun _ _ f => f), h.apart⟩
theorem Fam.snoc (h : Fam w B e s vs xss) : Fam w B e s (vs ++ [.slice none 0 0]) (xss ++ [(0, [])]) := by
 refine ⟨by simp [h.len], fun i v x hv hx => ?_, fun i j v u hne hv hu q hq => ?_⟩
 ·by_cases hi : i < vs.length
  ·rw [List.getElem?_append_left hi] at hv
   rw [List.getElem?_append_left (by rw [← h.len]; exact hi)] at hx
   exact h.row i v x hv hx
  ·rw [List.getElem?_append_right (by omega)] at hv
   rw [List.getElem?_append_right (by rw [← h.len]; omega)] at hx
   rw [← h.len] at hx
   have h0 : i - vs.length = 0 := by
    have := (List.getElem?_eq_some_iff.1 hv).1
    simpa using this
   rw [h0] at hv hx
   simp only [List.getElem?_cons_zero, Option.some.injEq] at hv hx
   subst hv
   subst hx
   exact World.ownsRow_nil _ _ _ _
 ·by_cases hi : i < vs.length
  ·rw [List.getElem?_append_left hi] at hv
   by_cases hj : j < vs.length
   ·rw [List.getElem?_append_left hj] at hu
    exact h.apart i j v u hne hv hu q hq
   ·rw [List.getElem?_append_right (by omega)] at hu
    have h0 : j - vs.length = 0 := by
     have := (List.getElem?_eq_some_iff.1 hu).1
     simpa using this
    rw [h0] at hu
    simp only [List.getElem?_cons_zero, Option.some.injEq] at hu
    subst hu
    intro f
    cases f
  ·rw [List.getElem?_append_right (by omega)] at hv
   have h0 : i - vs.length = 0 := by
    have := (List.getElem?_eq_some_iff.1 hv).1
    simpa using this
   rw [h0] at hv
   simp only [List.getElem?_cons_zero, Option.some.injEq] at hv
   subst hv
   cases hq
theorem Fam.set (h : Fam w B e s vs xss) {k : Nat} {v : Value} (hv : vs[k]? = some v) (hk : Kept (fun q => v.ownBlock = some q) w w') (v' : Value) (x' : Nat × List Value) (hr : w'.ownsRow B e s v' x'.1 x'.2) (hn : ∀ q, v'.ownBlock = some q → v.ownBlock = some q ∨ w.heap.size ≤ q) : Fam w' B e s (vs.set k v') (xss.set k x') := by
 have hkl := (List.getElem?_eq_some_iff.1 hv).1
 refine ⟨by simp [h.len], fun i u x hu hx => ?_, fun i j u1 u2 hne h1 h2 q hq => ?_⟩
 ·by_cases hik : k = i
  ·subst hik
   rw [List.getElem?_set_self hkl] at hu
   rw [List.getElem?_set_self (by rw [← h.len]; exact hkl)] at hx
   cases hu
   cases hx
   exact hr
  ·rw [List.getElem?_set_ne hik] at hu hx
   exact hk.ownsRow (h.row i u x hu hx) (fun q hq e => h.apart i k u v (fun e => hik e.symm) hu hv q hq e)
 ·by_cases hik : k = i
  ·subst hik
   rw [List.getElem?_set_self hkl] at h1
   rw [List.getElem?_set_ne hne] at h2
   cases h1
   intro hq2
   rcases hn q hq with hh | hh
   ·exact h.apart k j v u2 hne hv h2 q hh hq2
   ·obtain ⟨x, _, hx⟩ := h.at h2
    have := (hx.lt q hq2).2
    omega
  ·rw [List.getElem?_set_ne hik] at h1
   by_cases hjk : k = j
   ·subst hjk
    rw [List.getElem?_set_self hkl] at h2
    cases h2
    intro hq2
    rcases hn q hq2 with hh | hh
    ·exact h.apart i k u1 v hne h1 hv q hq hh
    ·obtain ⟨x, _, hx⟩ := h.at h1
     have := (hx.lt q hq).2
     omega
   ·rw [List.getElem?_set_ne hjk] at h2
    exact h.apart i j u1 u2 hne h1 h2 q hq
def MapIs (w : World) (g : Nat) (L : List (ByteArray × Int)) : Prop := ∃ clk es, w.heap[g]? = some (.map (es.map cN.ent).toArray clk) ∧ ∀ s : ByteArray, look es s.data.toList = lkA L s
theorem MapIs.ch {g : Nat} {L : List (ByteArray × Int)} (h : MapIs w g L) (hk : Kept S w w') (hc : Ch w S t) : MapIs w' g L := by
 obtain ⟨clk, es, hm, hl⟩ := h
 refine ⟨clk, es, box_kept hk hm (fun hS => ?_), hl⟩
 obtain ⟨cs', f', e1⟩ := hc g hS
 rw [hm] at e1
 cases e1
theorem MapIs.same {g : Nat} {L : List (ByteArray × Int)} (h : MapIs w g L) (hk : Kept (fun _ => False) w w') : MapIs w' g L := by
 obtain ⟨clk, es, hm, hl⟩ := h
 exact ⟨clk, es, box_kept hk hm id, hl⟩
theorem MapIs.other {g g' : Nat} {L : List (ByteArray × Int)} (h : MapIs w g L) (hk : Kept (fun q => q = g') w w') (hne : g ≠ g') : MapIs w' g L := by
 obtain ⟨clk, es, hm, hl⟩ := h
 exact ⟨clk, es, box_kept hk hm hne, hl⟩
theorem MapIs.not_own {g : Nat} {L : List (ByteArray × Int)} (h : MapIs w g L) {v : Value} {n : Nat} {xs : List Value} (ho : w.ownsRow B e s v n xs) : v.ownBlock ≠ some g := fun hq => by
 obtain ⟨clk, es, hm, _⟩ := h
 obtain ⟨cs, f, e1⟩ := own_is ho g hq
 rw [hm] at e1
 cases e1
theorem MapIs.not_box {g r : Nat} {L : List (ByteArray × Int)} (h : MapIs w g L) {cs : Array Value} {t' : TypeId} {f : Nat × Nat} (hb : w.heap[r]? = some (.cells cs t' f)) : r ≠ g := fun hq => by
 obtain ⟨clk, es, hm, _⟩ := h
 rw [hq, hm] at hb
 cases hb
theorem MapIs.own {g : Nat} {L : List (ByteArray × Int)} (h : MapIs w g L) (hk : Kept (fun q => q = g) w w') {v : Value} {n : Nat} {xs : List Value} (ho : w.ownsRow B e s v n xs) : w'.ownsRow B e s v n xs := hk.ownsRow ho (fun q hq e => h.not_own ho (by rw [hq, e]))
theorem MapIs.fam {g : Nat} {L : List (ByteArray × Int)} (h : MapIs w g L) (hk : Kept (fun q => q = g) w w') (ho : Fam w B e s vs xss) : Fam w' B e s vs xss := ⟨ho.len, fun i v x hv hx => h.own hk (ho.row i v x hv hx), ho.apart⟩
theorem MapIs.box {g r : Nat} {L : List (ByteArray × Int)} (h : MapIs w g L) (hk : Kept (fun q => q = g) w w') {cs : Array Value} {t' : TypeId} {f : Nat × Nat} (hb : w.heap[r]? = some (.cells cs t' f)) : w'.heap[r]? = some (.cells cs t' f) := box_kept hk hb (h.not_box hb)
theorem map_new {r : Nat} {clk : Nat} (hm : w.heap[r]? = some (.map #[] clk)) : MapIs w r [] := ⟨clk, [], hm, fun _ => rfl⟩
theorem MapIs.run_look {g : Nat} {L : List (ByteArray × Int)} (h : MapIs w g L) (x : ByteArray) (b : Bool) : (Instr.lookup 89 (.map (some g)) (.string x) b).run Tryz.prog w = .ok (if b then .tuple #[(match lkA L x with | some a => .int .i64 a | none => .int .i64 0), .bool (lkA L x).isSome] else (match lkA L x with | some a => .int .i64 a | none => .int .i64 0)) w := by
 obtain ⟨clk, es, hm, hl⟩ := h
 have hs : x = ⟨x.data.toList.toArray⟩ := by cases x; simp
 have hL := Go.Proofs.YtpfmhibdmehlcaaGreatDoor.run_look fitsN w g clk es hm x.data.toList b
 rw [show cN.enc x.data.toList = .string x by show Value.string _ = _; rw [← hs]] at hL
 rw [hL]
 unfold lookV
 rw [hl x]
 cases lkA L x <;> rfl
theorem toL_inj {a b : ByteArray} (h : a.data.toList = b.data.toList) : a = b := ByteArray.ext (Array.ext' h)
theorem MapIs.run_lay {g : Nat} {L : List (ByteArray × Int)} (h : MapIs w g L) (x : ByteArray) (a : Int) (hn : lkA L x = none) : ∃ w', (Instr.mapUpdate 89 (.map (some g)) (.string x) (.int .i64 a)).run Tryz.prog w = .ok () w' ∧ Kept (fun q => q = g) w w' ∧ MapIs w' g (L ++ [(x, a)]) := by
 obtain ⟨clk, es, hm, hl⟩ := h
 have hs : x = ⟨x.data.toList.toArray⟩ := by cases x; simp
 obtain ⟨clk', hU⟩ := Go.Proofs.YtpfmhibdmehlcaaGreatDoor.run_lay fitsN w g clk es hm x.data.toList a
 rw [show cN.enc x.data.toList = .string x by show Value.string _ = _; rw [← hs]] at hU
 refine ⟨_, hU, kept_over w g _, clk', _, over_same w g _ (Array.getElem?_eq_some_iff.1 hm).1, fun y => ?_⟩
 rw [look_lays, lkA_snoc]
 by_cases hy : y = x
 ·rw [if_pos (by rw [hy]), hy, hn, if_pos rfl]
 ·rw [if_neg (fun e => hy (toL_inj e)), hl y]
  cases lkA L y with
  | none => simp only; rw [if_neg hy]
  | some z => rfl
end Go.Proofs.YtpfmhibdmehlcaaGreatDoor
namespace Go.Proofs.YtpfmhibdmehlcaaGreatDoor
open Go.RowKit
set_option linter.unusedVariables false
set_option linter.unusedSimpArgs false
set_option maxRecDepth 100000
def fnC (f : Fnc) (c : Value) : List Value := [.int .i64 f.a, .int .i64 f.l, .int .i64 f.r, c]
def fnCells : List Fnc → List Value → List Value
 | f :: fs, c :: cs => fnC f c ++ fnCells fs cs
 | _, _ => []
theorem fnCells_snoc : ∀ (fs : List Fnc) (cs : List Value) (f : Fnc) (c : Value), cs.length = fs.length → fnCells (fs ++ [f]) (cs ++ [c]) = fnCells fs cs ++ fnC f c
 | [], [], f, c, _ => by simp [fnCells]
 | [], _ :: _, f, c, h => by simp at h
 | _ :: _, [], f, c, h => by simp at h
 | g :: fs, d :: cs, f, c, h => by
  rw [List.cons_append, List.cons_append, fnCells, fnCells, fnCells_snoc fs cs f c (by simpa using h), List.append_assoc]
theorem fnCells_at : ∀ (fs : List Fnc) (cs : List Value) (i : Nat) (f : Fnc) (c : Value), fs[i]? = some f → cs[i]? = some c → ∀ j, j < 4 → (fnCells fs cs)[i * 4 + j]? = (fnC f c)[j]?
 | g :: fs, d :: cs, 0, f, c, h1, h2, j, hj => by
  simp at h1 h2
  subst h1
  subst h2
  rw [fnCells, List.getElem?_append_left (by show 0 * 4 + j < 4; omega)]
  congr 1
  omega
 | g :: fs, d :: cs, i + 1, f, c, h1, h2, j, hj => by
  rw [fnCells, List.getElem?_append_right (by show 4 ≤ (i + 1) * 4 + j; omega)]
  have : (i + 1) * 4 + j - (fnC g d).length = i * 4 + j := by show (i + 1) * 4 + j - 4 = _; omega
  rw [this]
  exact fnCells_at fs cs i f c (by simpa using h1) (by simpa using h2) j hj
 | [], _, i, f, c, h1, _, _, _ => by simp at h1
 | _ :: _, [], i, f, c, _, h2, _, _ => by simp at h2
theorem fnCells_last (fs : List Fnc) (cs : List Value) (f : Fnc) (c c' : Value) (h : cs.length = fs.length) : (fnCells (fs ++ [f]) (cs ++ [c])).set (fs.length * 4 + 3) c' = fnCells (fs ++ [f]) (cs ++ [c']) := by
 rw [fnCells_snoc fs cs f c h, fnCells_snoc fs cs f c' h]
 have hl : (fnCells fs cs).length = fs.length * 4 := by
  clear c c' f
  revert cs
  induction fs with
  | nil => intro cs h; cases cs with
   | nil => rfl
   | cons _ _ => simp at h
  | cons g fs ih => intro cs h; cases cs with
   | nil => simp at h
   | cons d cs =>
    rw [fnCells, List.length_append, ih cs (by simpa using h)]
    show 4 + _ = _
    simp only [List.length_cons]
    omega
 rw [List.set_append_right _ _ (by omega), hl]
 congr 1
 rw [show fs.length * 4 + 3 - fs.length * 4 = 3 by omega]
 rfl
theorem fnCells_same : ∀ (fs gs : List Fnc) (cs : List Value), fs.map (fun f => (f.a, f.l, f.r)) = gs.map (fun f => (f.a, f.l, f.r)) → fnCells fs cs = fnCells gs cs
 | [], [], cs, _ => rfl
 | [], g :: gs, cs, h => by simp at h
 | f :: fs, [], cs, h => by simp at h
 | f :: fs, g :: gs, [], h => by simp [fnCells]
 | f :: fs, g :: gs, c :: cs, h => by
  simp only [List.map_cons, List.cons.injEq, Prod.mk.injEq] at h
  obtain ⟨⟨h1, h2, h3⟩, h4⟩ := h
  rw [fnCells, fnCells, fnCells_same fs gs cs h4]
  unfold fnC
  rw [h1, h2, h3]
def codX (f : Fnc) : Nat × List Value := (f.code.length, icells f.code)
def mpV (g : Nat) : Value := .map (some g)
def wtC (m : Nat) (x : Wt) : List Value := [.int .i64 x.ln, .int .i64 (x.fn : Int), .int .i64 (x.pl : Int), .string x.nm, .map (some m)]
def wtM (gm : Nat) (GM : List Nat) (x : Wt) : Nat := if x.jump = true then GM.getD x.fn 0 else gm
def wtCells (gm : Nat) (GM : List Nat) (ws : List Wt) : List Value := ws.flatMap (fun x => wtC (wtM gm GM x) x)
theorem wtCells_snoc (gm : Nat) (GM : List Nat) (ws : List Wt) (x : Wt) : wtCells gm GM (ws ++ [x]) = wtCells gm GM ws ++ wtC (wtM gm GM x) x := by simp [wtCells]
theorem wtCells_more (gm : Nat) (GM : List Nat) (g : Nat) : ∀ (ws : List Wt), (∀ x ∈ ws, x.fn < GM.length) → wtCells gm (GM ++ [g]) ws = wtCells gm GM ws
 | [], _ => rfl
 | x :: ws, h => by
  have e : ∀ G, wtCells gm G (x :: ws) = wtC (wtM gm G x) x ++ wtCells gm G ws := fun G => by simp [wtCells]
  rw [e, e, wtCells_more gm GM g ws (fun y hy => h y (List.mem_cons_of_mem _ hy))]
  congr 2
  unfold wtM
  rw [List.getD_eq_getElem?_getD, List.getD_eq_getElem?_getD, List.getElem?_append_left (h x List.mem_cons_self)]
structure RdZ (w0 w : World) (r : Nat) (R : Rdr) (NL : List (ByteArray × Int)) (dv fv lv wv : Value) (gm : Nat) (CV : List Value) (GM : List Nat) : Prop where
 box : w.heap[r]? = some (.cells #[.int .i64 R.mem, dv, fv, .bool R.sized, .map (some gm), lv, wv] 93 (0, 0))
 data : w.ownsRow w0.heap.size 5 1 dv R.data.length (byts R.data)
 fns : w.ownsRow w0.heap.size 51 4 fv R.fs.length (fnCells R.fs CV)
 code : Fam w w0.heap.size 48 2 CV (R.fs.map codX)
 mps : w.ownsRow w0.heap.size 89 1 lv GM.length (GM.map mpV)
 maps : ∀ (i g : Nat) (f : Fnc), GM[i]? = some g → R.fs[i]? = some f → MapIs w g f.ls
 names : MapIs w gm NL
 nodup : (gm :: GM).Nodup
 newer : ∀ g ∈ gm :: GM, w0.heap.size ≤ g
 wts : w.ownsRow w0.heap.size 130 5 wv R.ws.length (wtCells gm GM R.ws)
 kept : Kept (fun _ => False) w0 w
 lo : w0.heap.size ≤ r
structure RdX (w0 w : World) (r : Nat) (R : Rdr) (dv fv lv wv : Value) (gm : Nat) (CV : List Value) (GM : List Nat) : Prop extends RdZ w0 w r R (nmL 0 R.fs) dv fv lv wv gm CV GM where
 glen : GM.length = R.fs.length
def RdG (w0 w : World) (r : Nat) (R : Rdr) : Prop := ∃ dv fv lv wv gm CV GM, RdX w0 w r R dv fv lv wv gm CV GM
variable {w0 w w' : World} {r gm : Nat} {R : Rdr} {NL : List (ByteArray × Int)} {dv fv lv wv : Value} {CV : List Value} {GM : List Nat}
theorem RdZ.same (h : RdZ w0 w r R NL dv fv lv wv gm CV GM) (hk : Kept (fun _ => False) w w') : RdZ w0 w' r R NL dv fv lv wv gm CV GM :=
 ⟨box_kept hk h.box id, hk.ownsRow h.data (fun _ _ f => f), hk.ownsRow h.fns (fun _ _ f => f), h.code.same hk, hk.ownsRow h.mps (fun _ _ f => f), fun i g f h1 h2 => (h.maps i g f h1 h2).same hk, h.names.same hk, h.nodup, h.newer, hk.ownsRow h.wts (fun _ _ f => f), h.kept.trans hk, h.lo⟩
theorem RdX.same (h : RdX w0 w r R dv fv lv wv gm CV GM) (hk : Kept (fun _ => False) w w') : RdX w0 w' r R dv fv lv wv gm CV GM := ⟨h.toRdZ.same hk, h.glen⟩
theorem RdG.same (h : RdG w0 w r R) (hk : Kept (fun _ => False) w w') : RdG w0 w' r R := by
 obtain ⟨dv, fv, lv, wv, gm, CV, GM, hX⟩ := h
 exact ⟨_, _, _, _, _, _, _, hX.same hk⟩
theorem RdZ.clen (h : RdZ w0 w r R NL dv fv lv wv gm CV GM) : CV.length = R.fs.length := by rw [h.code.len, List.length_map]
def OthG (w w' : World) : Prop := ∀ (q : Nat) (cs : Array Value) (t : TypeId), w.heap[q]? = some (.cells cs t (0, 0)) → t = 9 ∨ t = 125 → w'.heap[q]? = some (.cells cs t (0, 0))
theorem OthG.trans {a b c : World} (h : OthG a b) (k : OthG b c) : OthG a c := fun q cs t hq ht => k q cs t (h q cs t hq ht) ht
theorem OthG.refl (w : World) : OthG w w := fun _ _ _ h _ => h
theorem Kept.othG (h : Kept (fun _ => False) w w') : OthG w w' := fun q cs t hq _ => box_kept h hq id
theorem ch_othG {S : Nat → Prop} {t : TypeId} (hk : Kept S w w') (hc : Ch w S t) (hne : t ≠ 9 ∧ t ≠ 125) : OthG w w' := fun q cs t' hq ht => box_ch hk hc hq (fun e => by
 rcases ht with h | h
 ·exact hne.1 (e.trans h)
 ·exact hne.2 (e.trans h))
theorem MapIs.othG {g : Nat} {L : List (ByteArray × Int)} (h : MapIs w g L) (hk : Kept (fun q => q = g) w w') : OthG w w' := fun q cs t' hq _ => h.box hk hq
structure RdY (w0 w : World) (R : Rdr) (NL : List (ByteArray × Int)) (dv fv lv wv : Value) (gm : Nat) (CV : List Value) (GM : List Nat) : Prop where
 data : w.ownsRow w0.heap.size 5 1 dv R.data.length (byts R.data)
 fns : w.ownsRow w0.heap.size 51 4 fv R.fs.length (fnCells R.fs CV)
 code : Fam w w0.heap.size 48 2 CV (R.fs.map codX)
 mps : w.ownsRow w0.heap.size 89 1 lv GM.length (GM.map mpV)
 maps : ∀ (i g : Nat) (f : Fnc), GM[i]? = some g → R.fs[i]? = some f → MapIs w g f.ls
 names : MapIs w gm NL
 nodup : (gm :: GM).Nodup
 newer : ∀ g ∈ gm :: GM, w0.heap.size ≤ g
 wts : w.ownsRow w0.heap.size 130 5 wv R.ws.length (wtCells gm GM R.ws)
theorem RdZ.rest (h : RdZ w0 w r R NL dv fv lv wv gm CV GM) : RdY w0 w R NL dv fv lv wv gm CV GM := ⟨h.data, h.fns, h.code, h.mps, h.maps, h.names, h.nodup, h.newer, h.wts⟩
theorem RdY.with (h : RdY w0 w R NL dv fv lv wv gm CV GM) (hb : w.heap[r]? = some (.cells #[.int .i64 R.mem, dv, fv, .bool R.sized, .map (some gm), lv, wv] 93 (0, 0))) (hk : Kept (fun _ => False) w0 w) (hl : w0.heap.size ≤ r) : RdZ w0 w r R NL dv fv lv wv gm CV GM :=
 ⟨hb, h.data, h.fns, h.code, h.mps, h.maps, h.names, h.nodup, h.newer, h.wts, hk, hl⟩
theorem RdY.ch {S : Nat → Prop} {t : TypeId} (h : RdY w0 w R NL dv fv lv wv gm CV GM) (hk : Kept S w w') (hc : Ch w S t) (hne : t ≠ 5 ∧ t ≠ 51 ∧ t ≠ 48 ∧ t ≠ 89 ∧ t ≠ 130) : RdY w0 w' R NL dv fv lv wv gm CV GM :=
 ⟨own_ch hk hc h.data hne.1, own_ch hk hc h.fns hne.2.1, h.code.ch hk hc hne.2.2.1, own_ch hk hc h.mps hne.2.2.2.1, fun i g f h1 h2 => (h.maps i g f h1 h2).ch hk hc, h.names.ch hk hc, h.nodup, h.newer, own_ch hk hc h.wts hne.2.2.2.2⟩
theorem RdZ.store {S : Nat → Prop} {t : TypeId} {R' : Rdr} {w5 : World} {dv' fv' lv' wv' : Value} {CV' : List Value} {GM' : List Nat} (h : RdZ w0 w r R NL dv fv lv wv gm CV GM) (hk : Kept S w w5) (hc : Ch w S t) (hne : t ≠ 93 ∧ t ≠ 9 ∧ t ≠ 125) (hS : ∀ q, S q → w0.heap.size ≤ q) (hy : RdY w0 w5 R' NL dv' fv' lv' wv' gm CV' GM') (i : Nat) (v : Value)
  (hb : #[.int .i64 R'.mem, dv', fv', .bool R'.sized, .map (some gm), lv', wv'] = (#[.int .i64 R.mem, dv, fv, .bool R.sized, .map (some gm), lv, wv] : Array Value).setIfInBounds i v) :
  OthG w w5 ∧ w5.heap[r]? = some (.cells #[.int .i64 R.mem, dv, fv, .bool R.sized, .map (some gm), lv, wv] 93 (0, 0)) ∧ RdZ w0 (w5.setCell ⟨r, i, none⟩ v) r R' NL dv' fv' lv' wv' gm CV' GM' ∧ OthG w5 (w5.setCell ⟨r, i, none⟩ v) := by
 have hb5 := box_ch hk hc h.box hne.1
 have hs := kept_set w5 r i v
 have hcb := ch_box hb5
 refine ⟨ch_othG hk hc hne.2, hb5, (hy.ch hs hcb (by decide)).with ?_ ((h.kept.step hk (fun q hq e => by have := hS q e; omega)).setCell (.inl h.lo) _) h.lo, ch_othG hs hcb (by decide)⟩
 rw [set_block _ _ i _ _ _ hb5 v, hb]
set_option maxHeartbeats 4000000 in
theorem begunG (h : RdZ w0 w r R NL dv fv lv wv gm CV GM) (hl : R.fs.length ≤ 90000) : Calls Tryz.prog 74 #[.pointer (some ⟨r, 0, none⟩)] w fun e w' => e = .returned (.bool (decide (R.fs ≠ []))) ∧ w' = w := by
 obtain ⟨fa, fc, hfv⟩ := ownsRow_shape h.fns
 have c2 := cell_block _ _ 2 _ _ _ h.box
 obtain ⟨n, hn⟩ := nmd (R.fs.length)
 rw [← hn] at hfv
 obtain ⟨q, hq⟩ := nmd (decide (R.fs ≠ []))
 have hqn : q = decide (0 < n) := by
  rw [hq, hn, decide_eq_decide]
  exact ⟨fun h => List.length_pos_iff.2 h, fun h => List.length_pos_iff.1 h⟩
 rw [← hq]
 have HQ : Hid (q = decide (0 < n)) := hqn
 subst hfv
 have hnb : (n : Int) ≤ 90000 := by omega
 clear h hn hq hqn
 go_enter Tryz.func74, Tryz.ntmps74
 go_wp2
 go_ret
 exact ⟨by rw [HQ.out]; rfl, rfl⟩
set_option maxHeartbeats 4000000 in
theorem lastG (h : RdZ w0 w r R NL dv fv lv wv gm CV GM) (gs : List Fnc) (f : Fnc) (hf : R.fs = gs ++ [f]) (hl : gs.length ≤ 90000) : Calls Tryz.prog 106 #[.pointer (some ⟨r, 0, none⟩)] w fun e w' => e = .returned (.int .i64 (gs.length : Int)) ∧ w' = w := by
 obtain ⟨fa, fc, hfv⟩ := ownsRow_shape h.fns
 have c2 := cell_block _ _ 2 _ _ _ h.box
 obtain ⟨n, hn⟩ := nmd (R.fs.length)
 rw [← hn] at hfv
 rw [hf, List.length_append] at hn
 obtain ⟨m, hm⟩ := nmd (gs.length)
 rw [← hm] at hn hl ⊢
 have hn : n = m + 1 := hn
 subst hn
 subst hfv
 clear h hm hf
 go_enter Tryz.func106, Tryz.ntmps106
 go_wp2
 go_ret
 exact ⟨by go_num, rfl⟩
end Go.Proofs.YtpfmhibdmehlcaaGreatDoor

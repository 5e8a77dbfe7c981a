/-
  sheet.run: things read by a row of calls, where no fault is met.
-/
import Derived.Test.YtffabihenhejfaaLead
import Derived.Deep.RegionLaw
import Derived.Laws.IdiomStrings
namespace Go.Proofs.Ytffabihenhejfaa
open Go.RowKit
set_option linter.unusedVariables false

section
variable {P : Program} {w : World}
/-- An append onto a row of one's own, as one step of a region that draws its order: where the row lies behind it. -/
theorem step_own_at {ops : Array Oper} {o : Oper} {a : Act} {K : Act → World → Prop} {Q : Exit → Act → World → Prop} {E : Prop} (hg : o.guard = none) (s x : Operand) (t : TypeId)
    (ho : o.op = .call { callee := .builtin .append, args := #[s, x], argTypes := #[t, t] }) (base : Nat) (e : TypeId) (i : TypeInfo) (z : Value) (size bytes : Nat) (ht : P.underlying t = some (.slice e)) (hi : P.info? e = some i) (hz : i.zero = some z)
    (hsize : i.size = size) (hby : i.bytes = bytes) (hzs : z.cells.size = size) (hsz : 0 < size)
    (v : Value) (n : Nat) (xs : List Value) (hs : a.eval s = v) (hown : w.ownsRow base e size v n xs)
    (ad : Addr) (m c : Nat) (news : List Value) (hx : a.eval x = .slice (some ad) m c) (hl : news.length = m * size) (hnews : ∀ j u, news[j]? = some u → w.cell? (ad.add j) = some u) (h1 : ∀ u ∈ news, u.oneCell' = true)
    (h63 : n + m ≤ maxLen) (hbytes : (n + m) * bytes ≤ 140737488355328) (hbase : base ≤ w.heap.size)
    (h : ∀ v' w', w'.ownsRow base e size v' (n + m) (xs ++ news) → w.grownBy w' v.ownBlock → (v'.ownBlock = v.ownBlock ∨ v'.ownBlock = some w.heap.size) → K (a.put o.dst v') w') :
    if Region.wanted o (yielded ops a.tmps) = true then Oper.wp P o a w K Q else E := by
  have hw : Region.wanted o (yielded ops a.tmps) = true := by simp [Region.wanted, hg]
  rw [if_pos hw]
  obtain ⟨v', w', hr, h2, h3, h4, h5⟩ := run_append_own_at (P := P) w base t o.type e i z size bytes ht hi hz hsize hby hzs hsz v n xs hown ad m c news hl hnews h1 h63 hbytes hbase
  unfold Oper.wp
  simp [execOp, ho, resolve, invoke, builtin, hs, hx, hr, Result.andThen]
  exact h v' w' h2 h3 h5
end

theorem step_call1 {P : Program} {w : World} {ops : Array Oper} {o : Oper} {a : Act} {K : Act → World → Prop} {Q : Exit → Act → World → Prop} {E : Prop} (hg : o.guard = none) (F : FuncId) (x : Operand) (t : TypeId)
    (ho : o.op = .call { callee := .value (.func F), args := #[x], argTypes := #[t] }) (v : Value) (hx : a.eval x = v) (v' : Value) (hent : (callFunc F #[v]).run P w = .ok (.enter F #[v]) w) (h : Calls P F #[v] w fun e w' => e = .returned v' ∧ w' = w) (hK : K (a.put o.dst v') w) :
    if Region.wanted o (yielded ops a.tmps) = true then Oper.wp P o a w K Q else E := by
  have hw : Region.wanted o (yielded ops a.tmps) = true := by simp [Region.wanted, hg]
  rw [if_pos hw]
  unfold Oper.wp
  have e1 : (Deferred.ofValue (a.eval (Operand.func F)) #[v]).run P w = .ok { target := .fn (.func F) #[], args := #[v] } w := by simp [go_sem]
  simp [execOp, ho, resolve, invoke, hx, Result.andThen]
  rw [e1]
  simp [hent]
  rw [Oper.upon_enter]
  refine h.mono ?_
  rintro e w' ⟨rfl, rfl⟩
  exact hK
theorem ent49 (v : Value) (w : World) : (callFunc 49 #[v]).run Try.prog w = .ok (.enter 49 #[v]) w := by
  simp [callFunc, Try.func49]
  rw [if_neg (by decide +kernel)]
  rfl

/-- A sheet: its four fields. -/
def Sh (w : World) (s : Nat) (wv tv lv rv : Value) : Prop := w.heap[s]? = some (.cells #[wv, tv, lv, rv] 64 (0, 0))

theorem Sh.cells {w : World} {s : Nat} {wv tv lv rv : Value} (h : Sh w s wv tv lv rv) : w.cell? ⟨s, 0, none⟩ = some wv ∧ w.cell? ⟨s, 1, none⟩ = some tv ∧ w.cell? ⟨s, 2, none⟩ = some lv ∧ w.cell? ⟨s, 3, none⟩ = some rv :=
  ⟨by rw [cell_block _ _ _ _ _ _ h]; rfl, by rw [cell_block _ _ _ _ _ _ h]; rfl, by rw [cell_block _ _ _ _ _ _ h]; rfl, by rw [cell_block _ _ _ _ _ _ h]; rfl⟩
theorem Sh.frozen {w : World} {s : Nat} {wv tv lv rv : Value} (h : Sh w s wv tv lv rv) (o : Nat) : w.frozen? ⟨s, o, none⟩ = false := frozen_block _ _ _ _ _ h
theorem Sh.lt {w : World} {s : Nat} {wv tv lv rv : Value} (h : Sh w s wv tv lv rv) : s < w.heap.size := (Array.getElem?_eq_some_iff.1 h).1
theorem Sh.kept {w w' : World} {s : Nat} {wv tv lv rv : Value} {S : Nat → Prop} (h : Sh w s wv tv lv rv) (hk : Kept S w w') (hS : ¬ S s) : Sh w' s wv tv lv rv := (hk.block s h.lt hS).trans h
theorem Sh.set1 {w : World} {s : Nat} {wv tv lv rv : Value} (h : Sh w s wv tv lv rv) (u : Value) : Sh (w.setCell ⟨s, 1, none⟩ u) s wv u lv rv := by
  unfold Sh; rw [set_block _ _ _ _ _ _ h]; rfl
theorem Sh.set2 {w : World} {s : Nat} {wv tv lv rv : Value} (h : Sh w s wv tv lv rv) (u : Value) : Sh (w.setCell ⟨s, 2, none⟩ u) s wv tv u rv := by
  unfold Sh; rw [set_block _ _ _ _ _ _ h]; rfl
theorem Sh.set3 {w : World} {s : Nat} {wv tv lv rv : Value} (h : Sh w s wv tv lv rv) (u : Value) : Sh (w.setCell ⟨s, 3, none⟩ u) s wv tv lv u := by
  unfold Sh; rw [set_block _ _ _ _ _ _ h]; rfl

/-- An item that is put without a fault, and read back as it was. -/
def Good (x : ItV) : Prop := 1 ≤ x.k ∧ x.k ≤ 6 ∧ -9223372036854775808 ≤ x.n ∧ x.n < 9223372036854775808 ∧ (x.k = 1 → 0 ≤ x.n) ∧ (x.k = 3 → 0 ≤ x.n ∧ x.n ≤ 1) ∧ (∀ y ∈ x.xs, 0 ≤ y ∧ y ≤ 255) ∧ x.xs.length ≤ 65536

def ItV.enc (x : ItV) : List Int := itemBytes x.k x.n x.xs
def encs (l : List ItV) : List Int := l.flatMap ItV.enc

/-- What was told of an item: it is that item, as far as its kind says. -/
def Told (w0 w : World) (tv lv : Value) (x y : ItV) : Prop :=
  y.k = x.k ∧ (x.k ≤ 3 → y.n = x.n) ∧ (3 < x.k → y.xs = x.xs) ∧ IsB w y.bv y.xs ∧ ∀ q, y.bv.ownBlock = some q → w0.heap.size ≤ q ∧ q < w.heap.size ∧ tv.ownBlock ≠ some q ∧ lv.ownBlock ≠ some q

/-- A sheet that is being filled: the Reader, with so much left; what was told; how much was left each time. -/
structure RI (w0 wr : World) (s r g : Nat) (wv : Value) (its : List ItV) (tv lv : Value) (told : List ItV) (lefts rest : List Int) : Prop where
  sh : Sh wr s wv tv lv (.pointer (some ⟨r, 0, none⟩))
  rd : ∃ v, Rd wr r v true 0 ∧ IsR wr g v rest
  row : Row wr tv told
  left : wr.ownsRow 0 3 1 lv lefts.length (lefts.map (Value.int .i64))
  all : ∀ i, i < told.length → Told w0 wr tv lv (its.getD i ItV.default) (told.getD i ItV.default)
  kept : Kept (fun q => q = s ∨ q = r) w0 wr
  ht : ∀ q, tv.ownBlock = some q → w0.heap.size ≤ q ∧ lv.ownBlock ≠ some q
  hl : ∀ q, lv.ownBlock = some q → w0.heap.size ≤ q
  sl : s < w0.heap.size
  rl : r < w0.heap.size
  gl : g < w0.heap.size
  sr : s ≠ r
  gr : g ≠ r
  gs : g ≠ s

theorem Told.kept {w0 w w' : World} {tv lv : Value} {x y : ItV} {S : Nat → Prop} (h : Told w0 w tv lv x y) (hk : Kept S w w') (hS : ∀ q, w0.heap.size ≤ q → q < w.heap.size → tv.ownBlock ≠ some q → lv.ownBlock ≠ some q → ¬ S q) : Told w0 w' tv lv x y := by
  obtain ⟨h1, h2, h3, h4, h5⟩ := h
  exact ⟨h1, h2, h3, h4.kept hk (fun q hq => hS q (h5 q hq).1 (h5 q hq).2.1 (h5 q hq).2.2.1 (h5 q hq).2.2.2), fun q hq => ⟨(h5 q hq).1, Nat.lt_of_lt_of_le (h5 q hq).2.1 hk.size, (h5 q hq).2.2⟩⟩

/-- A call of the Reader, and a variable that is new. -/
theorem RI.read {w0 wr w3 : World} {s r g : Nat} {wv tv lv : Value} {its told : List ItV} {lefts rest rest' : List Int} {o : Obj} (h : RI w0 wr s r g wv its tv lv told lefts rest) (hk : Kept (fun q => q = r ∨ q = wr.heap.size) (wr.alloc o) w3)
    (hrd : ∃ v, Rd w3 r v true 0 ∧ IsR w3 g v rest') : RI w0 w3 s r g wv its tv lv told lefts rest' := by
  have hk' : Kept (fun q => q = r ∨ q = wr.heap.size) wr w3 := ((Kept.refl _ _).alloc o).trans hk
  have hk2 : Kept (fun q => q = r) wr w3 := hk'.mono (fun q hq h => by rcases h with h | h; exact h; omega)
  have hs := h.kept.size
  have hrl := h.rl
  refine ⟨h.sh.kept hk2 h.sr, hrd, hk2.ownsRow h.row (fun q hq e => ?_), hk2.ownsRow h.left (fun q hq e => ?_), fun i hi => (h.all i hi).kept hk2 (fun q h1 _ _ _ e => ?_), h.kept.trans (hk2.mono (fun _ _ e => .inr e)), h.ht, h.hl, h.sl, h.rl, h.gl, h.sr, h.gr, h.gs⟩
  · have := (h.ht q hq).1; omega
  · have := h.hl q hq; omega
  · omega

theorem getD_snoc (l : List ItV) (y : ItV) (i : Nat) (h : i < l.length + 1) : (l ++ [y]).getD i ItV.default = if i = l.length then y else l.getD i ItV.default := by
  by_cases e : i = l.length
  · subst e; simp [List.getD]
  · rw [if_neg e, List.getD, List.getElem?_append_left (by omega)]; rfl

/-- What was told is put behind. -/
theorem RI.told {w0 w3 w5 : World} {s r g : Nat} {wv tv tv' lv : Value} {its told : List ItV} {lefts rest : List Int} {y : ItV} (h : RI w0 w3 s r g wv its tv lv told lefts rest) (hown' : w5.ownsRow 0 27 3 tv' (told.length + 1) (told.flatMap ItV.cells ++ y.cells))
    (hk : Kept (fun q => tv.ownBlock = some q) w3 w5) (hat : tv'.ownBlock = tv.ownBlock ∨ ∀ q, tv'.ownBlock = some q → w3.heap.size ≤ q) (hy : Told w0 w3 tv lv (its.getD told.length ItV.default) y) :
    RI w0 (w5.setCell ⟨s, 1, none⟩ tv') s r g wv its tv' lv (told ++ [y]) lefts rest := by
  have hs0 := h.kept.size
  have hsl := h.sl
  have hrl := h.rl
  have hgl := h.gl
  have hks := kept_set w5 s 1 tv'
  have hll : ∀ q, lv.ownBlock = some q → q < w3.heap.size := fun q hq => (World.ownsRow.lt h.left q hq).2
  have hT : ∀ x z, Told w0 w3 tv lv x z → Told w0 (w5.setCell ⟨s, 1, none⟩ tv') tv' lv x z := by
    intro x z hz
    obtain ⟨h1, h2, h3, h4, h5⟩ := (hz.kept hk (fun q _ _ hq _ e => hq e)).kept hks (fun q hq _ _ _ e => by omega)
    refine ⟨h1, h2, h3, h4, fun q hq => ⟨(h5 q hq).1, (h5 q hq).2.1, ?_, (h5 q hq).2.2.2⟩⟩
    intro e
    rcases hat with e' | e'
    · rw [e'] at e; exact (h5 q hq).2.2.1 e
    · have := e' q e
      have := (hz.2.2.2.2 q hq).2.1
      omega
  obtain ⟨v, q1, q2⟩ := h.rd
  refine ⟨(h.sh.kept hk (fun e => ?_)).set1 _, ⟨v, (q1.kept hk (fun e => ?_)).kept hks (fun e => h.sr e.symm), (q2.kept hk (fun e => ?_)).kept hks h.gs⟩, ?_, hks.ownsRow (hk.ownsRow h.left (fun q hq e => (h.ht q e).2 hq)) (fun q hq e => ?_), fun i hi => ?_, ?_, fun q hq => ?_, h.hl, h.sl, h.rl, h.gl, h.sr, h.gr, h.gs⟩
  · have := (h.ht s e).1; omega
  · have := (h.ht r e).1; omega
  · have := (h.ht g e).1; omega
  · refine hks.ownsRow ?_ (fun q hq e => ?_)
    · show w5.ownsRow 0 27 3 tv' (told ++ [y]).length ((told ++ [y]).flatMap ItV.cells)
      rw [List.length_append, List.flatMap_append]
      simpa using hown'
    · rcases hat with e' | e'
      · rw [e'] at hq; have := (h.ht q hq).1; omega
      · have := e' q hq; omega
  · have := h.hl q hq; omega
  · rw [List.length_append] at hi
    rw [getD_snoc told y i hi]
    by_cases e : i = told.length
    · subst e
      rw [if_pos rfl]
      exact hT _ _ hy
    · rw [if_neg e]
      exact hT _ _ (h.all i (by simp at hi; omega))
  · exact (h.kept.step hk (fun q hq e => by have := (h.ht q e).1; omega)).step hks (fun q hq e => .inl e)
  · rcases hat with e' | e'
    · rw [e'] at hq; exact h.ht q hq
    · have := e' q hq
      exact ⟨by omega, fun e => by have := hll q e; omega⟩

/-- How much was left is put behind. -/
theorem RI.lefts {w0 w3 w5 : World} {s r g : Nat} {wv tv lv lv' : Value} {its told : List ItV} {lefts rest : List Int} {n : Int} (h : RI w0 w3 s r g wv its tv lv told lefts rest) (hown' : w5.ownsRow 0 3 1 lv' (lefts.length + 1) (lefts.map (Value.int .i64) ++ [.int .i64 n]))
    (hk : Kept (fun q => lv.ownBlock = some q) w3 w5) (hat : lv'.ownBlock = lv.ownBlock ∨ ∀ q, lv'.ownBlock = some q → w3.heap.size ≤ q) :
    RI w0 (w5.setCell ⟨s, 2, none⟩ lv') s r g wv its tv lv' told (lefts ++ [n]) rest := by
  have hs0 := h.kept.size
  have hsl := h.sl
  have hrl := h.rl
  have hgl := h.gl
  have hks := kept_set w5 s 2 lv'
  have htl : ∀ q, tv.ownBlock = some q → q < w3.heap.size := fun q hq => (World.ownsRow.lt h.row q hq).2
  have hT : ∀ x z, Told w0 w3 tv lv x z → Told w0 (w5.setCell ⟨s, 2, none⟩ lv') tv lv' x z := by
    intro x z hz
    obtain ⟨h1, h2, h3, h4, h5⟩ := (hz.kept hk (fun q _ _ _ hq e => hq e)).kept hks (fun q hq _ _ _ e => by omega)
    refine ⟨h1, h2, h3, h4, fun q hq => ⟨(h5 q hq).1, (h5 q hq).2.1, (h5 q hq).2.2.1, ?_⟩⟩
    intro e
    rcases hat with e' | e'
    · rw [e'] at e; exact (h5 q hq).2.2.2 e
    · have := e' q e
      have := (hz.2.2.2.2 q hq).2.1
      omega
  obtain ⟨v, q1, q2⟩ := h.rd
  refine ⟨(h.sh.kept hk (fun e => ?_)).set2 _, ⟨v, (q1.kept hk (fun e => ?_)).kept hks (fun e => h.sr e.symm), (q2.kept hk (fun e => ?_)).kept hks h.gs⟩, hks.ownsRow (hk.ownsRow h.row (fun q hq e => (h.ht q hq).2 e)) (fun q hq e => ?_), ?_, fun i hi => hT _ _ (h.all i hi), ?_, fun q hq => ?_, fun q hq => ?_, h.sl, h.rl, h.gl, h.sr, h.gr, h.gs⟩
  · have := h.hl s e; omega
  · have := h.hl r e; omega
  · have := h.hl g e; omega
  · have := (h.ht q hq).1; omega
  · refine hks.ownsRow ?_ (fun q hq e => ?_)
    · rw [List.length_append, List.map_append]
      simpa using hown'
    · rcases hat with e' | e'
      · rw [e'] at hq; have := h.hl q hq; omega
      · have := e' q hq; omega
  · exact (h.kept.step hk (fun q hq e => by have := h.hl q e; omega)).step hks (fun q hq e => .inl e)
  · refine ⟨(h.ht q hq).1, fun e => ?_⟩
    rcases hat with e' | e'
    · rw [e'] at e; exact (h.ht q hq).2 e
    · have := e' q e; have := htl q hq; omega
  · rcases hat with e' | e'
    · rw [e'] at hq; exact h.hl q hq
    · have := e' q hq; omega

theorem kept_app {w3 wA w5 : World} {row : Option Nat} (h : wA.grownBy w5 row) (hA : Kept (fun _ => False) w3 wA) : Kept (fun q => row = some q) w3 w5 :=
  (hA.mono (fun _ _ f => f.elim)).grown h (fun k e => .inr e)

theorem hat_of {v v' : Value} {W w3 : World} (h : v'.ownBlock = v.ownBlock ∨ v'.ownBlock = some W.heap.size) (hs : w3.heap.size ≤ W.heap.size) : v'.ownBlock = v.ownBlock ∨ ∀ q, v'.ownBlock = some q → w3.heap.size ≤ q := by
  rcases h with h | h
  · exact .inl h
  · exact .inr (fun q hq => by rw [h] at hq; have := Option.some.inj hq; omega)

/-- Behind k calls. -/
def RunInv (w0 wr : World) (s r g : Nat) (wv : Value) (its : List ItV) (k : Nat) (tv lv : Value) (told : List ItV) (lefts : List Int) : Prop :=
  RI w0 wr s r g wv its tv lv told lefts (encs (its.drop k)) ∧ told.length = k ∧ lefts.length = k ∧ (0 < k → lefts.getD (k - 1) 0 = ((encs (its.drop k)).length : Int))

theorem encs_drop (its : List ItV) (k : Nat) (h : k < its.length) : encs (its.drop k) = (its.getD k ItV.default).enc ++ encs (its.drop (k + 1)) := by
  have e : its.drop k = its.getD k ItV.default :: its.drop (k + 1) := by
    rw [List.drop_eq_getElem_cons h]
    simp [List.getD, List.getElem?_eq_getElem h]
  rw [e]
  rfl

theorem run_next {w0 wr : World} {s r g : Nat} {wv tv lv : Value} {its told : List ItV} {lefts rest : List Int} {y : ItV} {k : Nat} (h : RI w0 wr s r g wv its tv lv (told ++ [y]) (lefts ++ [(rest.length : Int)]) rest) (ht : told.length = k) (hl : lefts.length = k) (hr : encs (its.drop (k + 1)) = rest) :
    RunInv w0 wr s r g wv its (k + 1) tv lv (told ++ [y]) (lefts ++ [(rest.length : Int)]) := by
  subst hr
  refine ⟨h, by rw [List.length_append, ht]; rfl, by rw [List.length_append, hl]; rfl, fun _ => ?_⟩
  subst hl
  simp [List.getD]

/-- A string as bytes: new memory. -/
theorem conv_back (w : World) (xs : List Int) (hx : ∀ x ∈ xs, 0 ≤ x ∧ x ≤ 255) : ∃ cp W', (convert 9 25 (.string (str xs))).run Try.prog w = .ok (.slice (some ⟨w.heap.size, 0, none⟩) xs.length cp) W' ∧ Kept (fun _ => False) w W' ∧ IsB W' (.slice (some ⟨w.heap.size, 0, none⟩) xs.length cp) xs ∧ w.heap.size < W'.heap.size := by
  have h := run_bytes_of_string (P := Try.prog) w 9 25 5 (str xs) Try.underlying9 Try.underlying25 Try.underlying5
  rw [str_size] at h
  refine ⟨_, _, h, ((Kept.refl _ _).drew).alloc _, .inr ⟨w.heap.size, 0, _, rfl, fun i hi => ?_⟩, by simp⟩
  have hsz : (str xs).data.size = xs.length := str_size xs
  have hal := heap_alloc_new w.drew (.cells (bytesRow (str xs) (grownCap w xs.length 0 5)) 5 ((bytesRow (str xs) (grownCap w xs.length 0 5)).size, (bytesRow (str xs) (grownCap w xs.length 0 5)).size + 1))
  have hal' : (w.drew.alloc (.cells (bytesRow (str xs) (grownCap w xs.length 0 5)) 5 ((bytesRow (str xs) (grownCap w xs.length 0 5)).size, (bytesRow (str xs) (grownCap w xs.length 0 5)).size + 1))).heap[w.heap.size]? = some _ := hal
  rw [cell_block _ _ _ _ _ _ hal', Nat.zero_add]
  have hn := congrArg (fun l : List Int => l[i]?) (str_nums xs hx)
  simp only [nums, List.getElem?_map] at hn
  have hi' : i < (str xs).data.size := by rw [hsz]; exact hi
  rw [show (str xs).data.toList[i]? = some ((str xs).data[i]'hi') from by simp, List.getElem?_eq_getElem hi] at hn
  simp only [Option.map_some, Option.some.injEq] at hn
  unfold bytesRow
  rw [Array.getElem?_append_left (by simpa using hi'), Array.getElem?_map, Array.getElem?_eq_getElem hi']
  simp [List.getD, List.getElem?_eq_getElem hi, hn]

theorem Try.info3 : (Try.prog.info? 3).map (fun i => (i.zero, i.size, i.bytes)) = some (some (.int .i64 0), 1, 8) := by kernel_rfl
end Go.Proofs.Ytffabihenhejfaa

/-
  Programs in a row: their data written full, the codes of their functions gathered.
-/
import Derived.Test.YtnjhnlohjhdcpabGrn
import Derived.Test.YtnjhnlohjhdcpabSef
namespace Go.Proofs.Ytnjhnlohjhdcpab
open Go.RowKit
set_option linter.unusedVariables false
set_option linter.unusedSimpArgs false

/-- A program in memory: its data, its functions, their codes. -/
structure PR where
  dv : Value
  fv : Value
  cvs : List Value
  p : PG
def PR.cells (x : PR) : List Value := [.int .i64 x.p.mem, x.dv, x.fv]
/-- Programs in a row, all of their own, all apart. -/
structure AllG (w : World) (v : Value) (ps : List PR) : Prop where
  row : w.ownsRow 0 25 3 v ps.length (ps.flatMap PR.cells)
  own : ∀ (i : Nat) (x : PR), ps[i]? = some x → OwnP 0 w x.dv x.fv x.cvs x.p
  ok : ∀ x ∈ ps, x.p.Ok
  dap : ∀ (i j : Nat) (x y : PR), i < j → ps[i]? = some x → ps[j]? = some y → ∀ q, x.dv.ownBlock = some q → y.dv.ownBlock ≠ some q
  cap : ∀ (i j : Nat) (x y : PR), i < j → ps[i]? = some x → ps[j]? = some y → ∀ c ∈ x.cvs, ∀ c' ∈ y.cvs, ∀ q, c.ownBlock = some q → c'.ownBlock ≠ some q
def PR.data (x : PR) : RL := ⟨x.dv, x.p.data.length, x.p.data.map (Value.int .u8)⟩
def dls (ps : List PR) : List RL := ps.map PR.data
/-- The blocks that may be turned. -/
def PBlk (ps : List PR) (q : Nat) : Prop := ∃ x ∈ ps, x.dv.ownBlock = some q ∨ ∃ c ∈ x.cvs, c.ownBlock = some q
theorem dls_len (ps : List PR) : (dls ps).length = ps.length := by simp [dls]
theorem dls_at {ps : List PR} {i : Nat} {x : PR} (h : ps[i]? = some x) : rlAt (dls ps) i = x.data := by
  simp [rlAt, dls, List.getD, h]
theorem dls_blk {ps : List PR} {q : Nat} (h : Blk (dls ps) q) : PBlk ps q := by
  obtain ⟨i, hi, e⟩ := h
  rw [dls_len] at hi
  rw [dls_at (List.getElem?_eq_getElem hi)] at e
  exact ⟨_, List.getElem_mem hi, .inl e⟩
theorem AllG.data {w : World} {v : Value} {ps : List PR} (h : AllG w v ps) : RLn 5 1 w (dls ps) := by
  refine ⟨fun i hi => ?_, fun i j hij hj q hq => ?_⟩
  · rw [dls_len] at hi
    rw [dls_at (List.getElem?_eq_getElem hi)]
    exact (h.own i _ (List.getElem?_eq_getElem hi)).dat
  · rw [dls_len] at hj
    have hi : i < ps.length := by omega
    rw [dls_at (List.getElem?_eq_getElem hi)] at hq
    rw [dls_at (List.getElem?_eq_getElem hj)]
    exact h.dap i j _ _ hij (List.getElem?_eq_getElem hi) (List.getElem?_eq_getElem hj) q hq
theorem prcells_at : ∀ (ps : List PR) (i : Nat) (x : PR), ps[i]? = some x → ∀ j, j < 3 → (ps.flatMap PR.cells)[i * 3 + j]? = x.cells[j]?
  | [], i, x, h, _, _ => by simp at h
  | y :: ps, 0, x, h, j, hj => by
    have e : y = x := by simpa using h
    subst e
    rw [List.flatMap_cons, Nat.zero_mul, Nat.zero_add, List.getElem?_append_left (by simp [PR.cells]; omega)]
  | y :: ps, i + 1, x, h, j, hj => by
    have ih := prcells_at ps i x (by simpa using h) j hj
    rw [List.flatMap_cons, List.getElem?_append_right (by simp [PR.cells]; omega), ← ih]
    congr 1
    simp [PR.cells]
    omega
/-- While the data is written and the codes are gathered: programs below i are done, k codes of program i are gathered. -/
structure Gat (w wr : World) (v : Value) (ps : List PR) (cv : Value) (ls : List RL) (i k : Nat) : Prop where
  row : wr.ownsRow 0 25 3 v ps.length (ps.flatMap PR.cells)
  fns : ∀ (j : Nat) (x : PR), ps[j]? = some x → OwnF 0 wr x.fv x.p.fns x.cvs
  cod : RLs 46 42 2 wr cv ls
  len : ls.length ≤ i * 6 + k
  pos : i + min k 1 ≤ ls.length
  src : ∀ r ∈ ls, r.n ≤ 4194304 ∧ ((∃ (j : Nat) (x : PR), j < i ∧ ps[j]? = some x ∧ r.v ∈ x.cvs) ∨ ∃ (x : PR) (m : Nat), ps[i]? = some x ∧ m < k ∧ x.cvs[m]? = some r.v)
  new : ∀ q, cv.ownBlock = some q → w.heap.size ≤ q
theorem Gat.start {w : World} {v : Value} {ps : List PR} (h : AllG w v ps) : Gat w w v ps (.slice none 0 0) [] 0 0 :=
  ⟨h.row, fun j x hx => (h.own j x hx).fns, RLs.nil _, by simp, by simp, fun r hr => by simp at hr, fun q hq => by cases hq⟩
theorem Gat.turn {w wr : World} {v cv : Value} {ps : List PR} {ls : List RL} {i k : Nat} (h : Gat w wr v ps cv ls i k) (hk : k ≤ 6) (hk1 : 1 ≤ k) : Gat w wr v ps cv ls (i + 1) 0 := by
  refine ⟨h.row, h.fns, h.cod, by have := h.len; omega, by have := h.pos; omega, fun r hr => ?_, h.new⟩
  obtain ⟨h1, h2⟩ := h.src r hr
  refine ⟨h1, .inl ?_⟩
  rcases h2 with ⟨j, x, hj, hx, hm⟩ | ⟨x, m, hx, hm, hc⟩
  · exact ⟨j, x, by omega, hx, hm⟩
  · exact ⟨i, x, by omega, hx, List.mem_of_getElem? hc⟩
theorem Gat.same {w wr w' : World} {v cv : Value} {ps : List PR} {ls : List RL} {i k : Nat} (h : Gat w wr v ps cv ls i k) (hk : Kept (fun _ => False) wr w') : Gat w w' v ps cv ls i k :=
  ⟨hk.ownsRow h.row (fun _ _ f => f), fun j x hx => (h.fns j x hx).kept hk (fun _ _ f => f), h.cod.same hk, h.len, h.pos, h.src, h.new⟩
/-- A byte is stored into a row of bytes. -/
theorem Gat.byte {w wr w' : World} {v cv dv : Value} {ps : List PR} {ls : List RL} {i k n : Nat} {xs : List Value} (h : Gat w wr v ps cv ls i k) (hd : wr.ownsRow 0 5 1 dv n xs) (hk : Kept (fun q => dv.ownBlock = some q) wr w') : Gat w w' v ps cv ls i k := by
  refine ⟨hk.ownsRow h.row (fun q hq e => own_unlike hd h.row (by decide) q e hq), fun j x hx => (h.fns j x hx).kept' hk (fun q hq e => own_unlike hd (h.fns j x hx).row (by decide) q e hq) (fun c hc q hq e => ?_), h.cod.kept hk (fun q hq e => own_unlike hd h.cod.row (by decide) q e hq) (fun q hq e => ?_), h.len, h.pos, h.src, h.new⟩
  · obtain ⟨i, F, _, _, ho⟩ := (h.fns j x hx).mem hc
    exact own_unlike hd ho (by decide) q e hq
  · obtain ⟨i, hi, hb⟩ := hq
    exact own_unlike hd (h.cod.own i hi) (by decide) q e hb
/-- A code is gathered. -/
theorem Gat.push {w wr w' : World} {v cv cv' c : Value} {ps : List PR} {ls : List RL} {i k : Nat} {x : PR} {f : FN} (hA : AllG w v ps) (h : Gat w wr v ps cv ls i k) (hx : ps[i]? = some x) (hf : x.p.fns[k]? = some f) (hc : x.cvs[k]? = some c) (hn : f.code.length ≤ 4194304)
    (hown : w'.ownsRow 0 42 1 cv' (ls.length + 1) (ls.map RL.v ++ [c])) (hk : Kept (fun q => cv.ownBlock = some q) wr w') (hat : cv'.ownBlock = cv.ownBlock ∨ ∀ q, cv'.ownBlock = some q → wr.heap.size ≤ q) (hs : w.heap.size ≤ wr.heap.size) :
    Gat w w' v ps cv' (ls ++ [⟨c, f.code.length, icells f.code⟩]) i (k + 1) := by
  have ho := (h.fns i x hx).at' k f c hf hc
  have hpush := RLs.push (bs := [⟨c, f.code.length, icells f.code⟩]) h.cod (fun m hm => by
    have e : m = 0 := by simpa using hm
    subst e
    exact ho) (fun a b hab hb => by simp at hb; omega) (fun m hm q hq => by
    have e : m = 0 := by simpa using hm
    subst e
    intro h2
    have h2 : c.ownBlock = some q := h2
    obtain ⟨j, hj, e2⟩ := hq
    have hr := rlAt_get hj
    obtain ⟨_, h3⟩ := h.src _ (List.mem_of_getElem? hr)
    rcases h3 with ⟨j2, y, hj2, hy, hm2⟩ | ⟨y, m2, hy, hm2, hc2⟩
    · exact hA.cap j2 i y x hj2 hy hx _ hm2 c (List.mem_of_getElem? hc) q e2 h2
    · rw [hx] at hy
      cases hy
      exact (h.fns i x hx).apart m2 k _ _ hm2 hc2 hc q e2 h2) (fun m hm q hq => by
    have e : m = 0 := by simpa using hm
    subst e
    exact own_unlike ho h.cod.row (by decide) q hq) (by simpa using hown) hk hat
  have hnew : ∀ q, cv'.ownBlock = some q → w.heap.size ≤ q := fun q hq => by
    rcases hat with e | e
    · exact h.new q (e ▸ hq)
    · exact Nat.le_trans hs (e q hq)
  refine ⟨hk.ownsRow h.row (fun q hq e => own_unlike h.row h.cod.row (by decide) q hq e), fun j y hy => (h.fns j y hy).kept' hk (fun q hq e => own_unlike (h.fns j y hy).row h.cod.row (by decide) q hq e) (fun c' hc' q hq e => ?_), hpush, ?_, by rw [List.length_append]; have := h.pos; simp; omega, fun r hr => ?_, hnew⟩
  · obtain ⟨m, F, _, _, ho'⟩ := (h.fns j y hy).mem hc'
    exact own_unlike ho' h.cod.row (by decide) q hq e
  · rw [List.length_append]
    have := h.len
    simp
    omega
  · rcases List.mem_append.1 hr with hr | hr
    · obtain ⟨h1, h2⟩ := h.src r hr
      refine ⟨h1, ?_⟩
      rcases h2 with h2 | ⟨y, m, hy, hm, hc2⟩
      · exact .inl h2
      · exact .inr ⟨y, m, hy, by omega, hc2⟩
    · have e : r = ⟨c, f.code.length, icells f.code⟩ := by simpa using hr
      subst e
      exact ⟨hn, .inr ⟨x, k, hx, by omega, hc⟩⟩
/-- What stays while the codes are written: the programs' row, the codes' row, the data. -/
structure Fr (wr : World) (v cv : Value) (ps : List PR) (ls DL : List RL) : Prop where
  row : wr.ownsRow 0 25 3 v ps.length (ps.flatMap PR.cells)
  crow : wr.ownsRow 0 42 1 cv ls.length (ls.map RL.v)
  dat : RLn 5 1 wr DL
theorem Fr.same {wr w' : World} {v cv : Value} {ps : List PR} {ls DL : List RL} (h : Fr wr v cv ps ls DL) (hk : Kept (fun _ => False) wr w') : Fr w' v cv ps ls DL :=
  ⟨hk.ownsRow h.row (fun _ _ f => f), hk.ownsRow h.crow (fun _ _ f => f), h.dat.same hk⟩
theorem Fr.instr {wr w' : World} {v cv u : Value} {ps : List PR} {ls DL : List RL} {n : Nat} {xs : List Value} (h : Fr wr v cv ps ls DL) (hd : wr.ownsRow 0 46 2 u n xs) (hk : Kept (fun q => u.ownBlock = some q) wr w') : Fr w' v cv ps ls DL :=
  ⟨hk.ownsRow h.row (fun q hq e => own_unlike hd h.row (by decide) q e hq), hk.ownsRow h.crow (fun q hq e => own_unlike hd h.crow (by decide) q e hq), h.dat.kept hk (fun q hq e => by
    obtain ⟨i, hi, hb⟩ := hq
    exact own_unlike hd (h.dat.own i hi) (by decide) q e hb)⟩
theorem Gat.blk {w wr : World} {v cv : Value} {ps : List PR} {ls : List RL} {i k : Nat} (h : Gat w wr v ps cv ls i k) {q : Nat} (hq : Blk ls q) : PBlk ps q := by
  obtain ⟨j, hj, e⟩ := hq
  obtain ⟨_, h3⟩ := h.src _ (List.mem_of_getElem? (rlAt_get hj))
  rcases h3 with ⟨j2, y, _, hy, hm⟩ | ⟨y, m, hy, _, hc⟩
  · exact ⟨y, List.mem_of_getElem? hy, .inr ⟨_, hm, e⟩⟩
  · exact ⟨y, List.mem_of_getElem? hy, .inr ⟨_, List.mem_of_getElem? hc, e⟩⟩
theorem Fr.slot {S : Nat → Prop} {wr w' : World} {v cv : Value} {ps : List PR} {ls DL : List RL} (h : Fr wr v cv ps ls DL) (hk : Kept S wr w') (h1 : ∀ q, v.ownBlock = some q → ¬ S q) (h2 : ∀ q, cv.ownBlock = some q → ¬ S q) (h3 : ∀ q, Blk DL q → ¬ S q) : Fr w' v cv ps ls DL :=
  ⟨hk.ownsRow h.row h1, hk.ownsRow h.crow h2, h.dat.kept hk h3⟩
end Go.Proofs.Ytnjhnlohjhdcpab

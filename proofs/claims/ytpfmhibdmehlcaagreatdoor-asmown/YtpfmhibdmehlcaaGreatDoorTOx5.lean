import Derived.Test.YtpfmhibdmehlcaaGreatDoorTOx2
namespace Go.Proofs.YtpfmhibdmehlcaaGreatDoor
open Go.RowKit
set_option linter.unusedVariables false
set_option linter.unusedSimpArgs false
section
variable {P : Program} (w : World)
theorem append_old (base : Nat) (t ty e : TypeId) (i : TypeInfo) (z : Value) (size bytes : Nat) (ht : P.underlying t = some (.slice e)) (hi : P.info? e = some i) (hz : i.zero = some z)
  (hsize : i.size = size) (hby : i.bytes = bytes) (hzs : z.cells.size = size) (hsz : 0 < size)
  (v : Value) (n : Nat) (xs : List Value) (hown : w.ownsRow base e size v n xs)
  (a : Addr) (m c : Nat) (news : List Value) (hl : news.length = m * size) (hnews : ∀ j u, news[j]? = some u → w.cell? (a.add j) = some u) (h1 : ∀ u ∈ news, u.oneCell' = true)
  (h63 : n + m ≤ maxLen) (hbytes : (n + m) * bytes ≤ 140737488355328) (hbase : base ≤ w.heap.size) :
  ∃ v' w', (Builtin.append_ #[t, t] ty #[v, .slice (some a) m c]).run P w = .ok v' w' ∧ w'.ownsRow base e size v' (n + m) (xs ++ news) ∧ w.grownBy w' v.ownBlock ∧
   (v'.ownBlock = v.ownBlock ∨ v'.ownBlock = some w.heap.size) ∧ (∀ g, v.ownBlock = some g → ∀ j u, xs[j]? = some u → w'.cell? ⟨g, j, none⟩ = some u) := by
 obtain ⟨v', w', hr, h2, h3, h4, h5⟩ := run_append_own_at (P := P) w base t ty e i z size bytes ht hi hz hsize hby hzs hsz v n xs hown a m c news hl hnews h1 h63 hbytes hbase
 refine ⟨v', w', hr, h2, h3, h5, fun g hg j u hu => ?_⟩
 subst hsize
 subst hby
 rcases hown.2 with ⟨rfl, rfl⟩ | ⟨g', cap, cur, rfl, hbg, hgg, hnc, hcm, hcs, htake⟩
 ·cases hg
 ·have eg : g' = g := Option.some.inj hg
  subst eg
  by_cases hroom : n + m ≤ cap
  ·have hfit : n * i.size + news.length ≤ cur.size := by rw [hl, hcs, ← Nat.add_mul]; exact Nat.mul_le_mul_right _ hroom
   have hr' := run_append_room (P := P) w t ty e i ht hi g' n cap cur hgg a m c news hl hnews h1 hroom hfit
   rw [hr'] at hr
   cases hr
   have := h2.cells (g := g') rfl j u (by rw [List.getElem?_append_left (List.getElem?_eq_some_iff.1 hu).1]; exact hu)
   rw [Addr.add_lit, Nat.zero_add] at this
   exact this
  ·have holds : ∀ j u, xs[j]? = some u → w.cell? ((⟨g', 0, none⟩ : Addr).add j) = some u := hown.cells (g := g') rfl
   have hr' := run_append_grow (P := P) w t ty e i z ht hi hz ⟨g', 0, none⟩ n cap xs hown.1 holds a m c news hl hnews (by omega) (by simp only [maxLen] at h63; omega) (growslice_fits (by omega) hbytes)
   rw [hr'] at hr
   cases hr
   have hq := holds j u hu
   rw [Addr.add_lit, Nat.zero_add] at hq
   have hlt := World.block_lt_of_cell? w _ hq
   rw [World.cell?_of_block (w := w) (show (w.drew.alloc _).heap[g']? = w.heap[g']? from Below.heap_alloc w.drew _ _ hlt)]
   exact hq
end
theorem own_mono {w : World} {B B' e s : Nat} {v : Value} {m : Nat} {l : List Value} (h : w.ownsRow B' e s v m l) (hB : B ≤ B') : w.ownsRow B e s v m l :=
 ⟨h.1, h.2.imp id fun ⟨g, c, cur, a, b, r⟩ => ⟨g, c, cur, a, Nat.le_trans hB b, r⟩⟩
structure RL where
 v : Value
 n : Nat
 xs : List Value
def RL.dft : RL := ⟨.slice none 0 0, 0, []⟩
def rlAt (ls : List RL) (i : Nat) : RL := ls.getD i RL.dft
theorem rlAt_get {ls : List RL} {i : Nat} (h : i < ls.length) : ls[i]? = some (rlAt ls i) := by simp [rlAt, List.getD, List.getElem?_eq_getElem h]
theorem rl_set (l : List RL) (y : RL) (i j : Nat) (h : i < l.length) : rlAt (l.set i y) j = if j = i then y else rlAt l j := by
 unfold rlAt
 by_cases e : j = i
 ·subst e; simp [List.getD, h]
 ·rw [if_neg e]; simp [List.getD, Ne.symm e]
def rowOf (mk : Nat → List Value) (n : Nat) : List Value := (List.range n).flatMap mk
theorem rowOf_succ (mk : Nat → List Value) (n : Nat) : rowOf mk (n + 1) = rowOf mk n ++ mk n := by simp [rowOf, List.range_succ]
structure RLs (e et s : Nat) (w : World) (lv : Value) (ls : List RL) : Prop where
 row : w.ownsRow 0 et 1 lv ls.length (ls.map RL.v)
 own : ∀ i, i < ls.length → w.ownsRow 0 e s (rlAt ls i).v (rlAt ls i).n (rlAt ls i).xs
 apart : ∀ i j, i < j → j < ls.length → ∀ q, (rlAt ls i).v.ownBlock = some q → (rlAt ls j).v.ownBlock ≠ some q
 off : ∀ i, i < ls.length → ∀ q, (rlAt ls i).v.ownBlock = some q → lv.ownBlock ≠ some q
section
variable {e et s : Nat} {mk an : Nat → Nat → List Value}
theorem RLs.nil (w : World) : RLs e et s w (.slice none 0 0) [] := ⟨World.ownsRow_nil _ _ _ _, fun i hi => absurd hi (by simp), fun i j _ hj => absurd hj (by simp), fun i hi => absurd hi (by simp)⟩
theorem RLs.lt {w : World} {lv : Value} {ls : List RL} (h : RLs e et s w lv ls) : ∀ q, lv.ownBlock = some q → q < w.heap.size := fun q hq => (World.ownsRow.lt h.row q hq).2
theorem RLs.olt {w : World} {lv : Value} {ls : List RL} (h : RLs e et s w lv ls) {i : Nat} (hi : i < ls.length) : ∀ q, (rlAt ls i).v.ownBlock = some q → q < w.heap.size := fun q hq => (World.ownsRow.lt (h.own i hi) q hq).2
def Blk (ls : List RL) (q : Nat) : Prop := ∃ i, i < ls.length ∧ (rlAt ls i).v.ownBlock = some q
theorem RLs.kept {w w' : World} {lv : Value} {ls : List RL} {S : Nat → Prop} (h : RLs e et s w lv ls) (hk : Kept S w w') (h1 : ∀ q, lv.ownBlock = some q → ¬ S q) (h2 : ∀ q, Blk ls q → ¬ S q) : RLs e et s w' lv ls :=
 ⟨hk.ownsRow h.row h1, fun i hi => hk.ownsRow (h.own i hi) (fun q hq => h2 q ⟨i, hi, hq⟩), h.apart, h.off⟩
theorem RLs.same {w w' : World} {lv : Value} {ls : List RL} (h : RLs e et s w lv ls) (hk : Kept (fun _ => False) w w') : RLs e et s w' lv ls := h.kept hk (fun _ _ f => f) (fun _ _ f => f)
theorem apart_of {ls : List RL} (ha : ∀ i j, i < j → j < ls.length → ∀ q, (rlAt ls i).v.ownBlock = some q → (rlAt ls j).v.ownBlock ≠ some q) {i j : Nat} (hi : i < ls.length) (hj : j < ls.length) {q : Nat} (h1 : (rlAt ls i).v.ownBlock = some q) (h2 : (rlAt ls j).v.ownBlock = some q) : i = j := by
 rcases Nat.lt_trichotomy i j with h | h | h
 ·exact absurd h2 (ha i j h hj q h1)
 ·exact h
 ·exact absurd h1 (ha j i h hi q h2)
theorem RLs.push {w w' : World} {lv lv' : Value} {ls bs : List RL} (h : RLs e et s w lv ls) (hb : ∀ i, i < bs.length → w.ownsRow 0 e s (rlAt bs i).v (rlAt bs i).n (rlAt bs i).xs)
  (hbb : ∀ i j, i < j → j < bs.length → ∀ q, (rlAt bs i).v.ownBlock = some q → (rlAt bs j).v.ownBlock ≠ some q) (hba : ∀ i, i < bs.length → ∀ q, Blk ls q → (rlAt bs i).v.ownBlock ≠ some q) (hbv : ∀ i, i < bs.length → ∀ q, (rlAt bs i).v.ownBlock = some q → lv.ownBlock ≠ some q)
  (hown : w'.ownsRow 0 et 1 lv' (ls.length + bs.length) (ls.map RL.v ++ bs.map RL.v)) (hk : Kept (fun q => lv.ownBlock = some q) w w') (hat : lv'.ownBlock = lv.ownBlock ∨ ∀ q, lv'.ownBlock = some q → w.heap.size ≤ q) : RLs e et s w' lv' (ls ++ bs) := by
 have hoff : ∀ q, q < w.heap.size → lv.ownBlock ≠ some q → lv'.ownBlock ≠ some q := by
  intro q hq hn e
  rcases hat with e' | e'
  ·rw [e'] at e; exact hn e
  ·have := e' q e; omega
 have hL : ∀ i, i < ls.length → rlAt (ls ++ bs) i = rlAt ls i := fun i hi => by unfold rlAt; rw [List.getD, List.getElem?_append_left hi]; rfl
 have hR : ∀ i, ls.length ≤ i → rlAt (ls ++ bs) i = rlAt bs (i - ls.length) := fun i hi => by unfold rlAt; rw [List.getD, List.getElem?_append_right hi]; rfl
 refine ⟨by rw [List.length_append, List.map_append]; exact hown, fun i hi => ?_, fun i j hij hj q hq => ?_, fun i hi q hq => ?_⟩
 ·rw [List.length_append] at hi
  by_cases hl : i < ls.length
  ·rw [hL i hl]
   exact hk.ownsRow (h.own i hl) (fun q hq e => h.off i hl q hq e)
  ·rw [hR i (by omega)]
   exact hk.ownsRow (hb _ (by omega)) (fun q hq e => hbv _ (by omega) q hq e)
 ·rw [List.length_append] at hj
  by_cases hl : j < ls.length
  ·rw [hL i (by omega)] at hq
   rw [hL j hl]
   exact h.apart i j hij hl q hq
  ·rw [hR j (by omega)]
   by_cases hl2 : i < ls.length
   ·rw [hL i hl2] at hq
    exact hba _ (by omega) q ⟨i, hl2, hq⟩
   ·rw [hR i (by omega)] at hq
    exact hbb _ _ (by omega) (by omega) q hq
 ·rw [List.length_append] at hi
  by_cases hl : i < ls.length
  ·rw [hL i hl] at hq
   exact hoff q (h.olt hl q hq) (h.off i hl q hq)
  ·rw [hR i (by omega)] at hq
   exact hoff q (World.ownsRow.lt (hb _ (by omega)) q hq).2 (hbv _ (by omega) q hq)
def cAt (mk : Nat → Nat → List Value) (s : Nat) (ls : List RL) (i j k : Nat) : List Value :=
 if k < i then rowOf (mk k) (rlAt ls k).n else if k = i then rowOf (mk i) j ++ (rlAt ls i).xs.drop (j * s) else (rlAt ls k).xs
structure Fil (e et s : Nat) (mk : Nat → Nat → List Value) (w wr : World) (lv : Value) (ls : List RL) (i j : Nat) : Prop where
 own : ∀ k, k < ls.length → wr.ownsRow 0 e s (rlAt ls k).v (rlAt ls k).n (cAt mk s ls i j k)
 row : wr.ownsRow 0 et 1 lv ls.length (ls.map RL.v)
 kept : Kept (Blk ls) w wr
theorem cAt_next (ls : List RL) (i k : Nat) (hx : (rlAt ls i).xs.length = (rlAt ls i).n * s) : cAt mk s ls i (rlAt ls i).n k = cAt mk s ls (i + 1) 0 k := by
 unfold cAt
 by_cases h1 : k < i
 ·rw [if_pos h1, if_pos (by omega)]
 ·rw [if_neg h1]
  by_cases h2 : k = i
  ·subst h2
   rw [if_pos rfl, if_pos (by omega), List.drop_of_length_le (by rw [hx]; exact Nat.le_refl _), List.append_nil]
  ·rw [if_neg h2, if_neg (by omega)]
   by_cases h3 : k = i + 1
   ·subst h3; simp [rowOf]
   ·rw [if_neg h3]
theorem cAt_other (ls : List RL) (i j j' k : Nat) (h : k ≠ i) : cAt mk s ls i j k = cAt mk s ls i j' k := by
 unfold cAt
 by_cases h1 : k < i
 ·rw [if_pos h1, if_pos h1]
 ·rw [if_neg h1, if_neg h1, if_neg h, if_neg h]
theorem Fil.next {w wr : World} {lv : Value} {ls : List RL} {i : Nat} (hb : RLs e et s w lv ls) (hi : i < ls.length) (h : Fil e et s mk w wr lv ls i (rlAt ls i).n) : Fil e et s mk w wr lv ls (i + 1) 0 :=
 ⟨fun k hk => by rw [← cAt_next ls i k (hb.own i hi).1]; exact h.own k hk, h.row, h.kept⟩
theorem Fil.step {w wr w' : World} {lv : Value} {ls : List RL} {i j : Nat} (hb : RLs e et s w lv ls) (h : Fil e et s mk w wr lv ls i j) (hi : i < ls.length)
  (hown : w'.ownsRow 0 e s (rlAt ls i).v (rlAt ls i).n (cAt mk s ls i (j + 1) i)) (hk : Kept (fun q => (rlAt ls i).v.ownBlock = some q) wr w') : Fil e et s mk w w' lv ls i (j + 1) := by
 refine ⟨fun k hk' => ?_, hk.ownsRow h.row (fun q hq e => hb.off i hi q e hq), h.kept.step hk (fun q _ e => ⟨i, hi, e⟩)⟩
 by_cases e : k = i
 ·subst e; exact hown
 ·rw [cAt_other ls i (j + 1) j k e]
  exact hk.ownsRow (h.own k hk') (fun q hq eq => e (apart_of hb.apart hk' hi hq eq))
structure Mor (e et s : Nat) (mk an : Nat → Nat → List Value) (w wr : World) (lv mv : Value) (ls ms : List RL) (k i : Nat) : Prop where
 len : ms.length = ls.length
 bls : RLs e et s wr mv ms
 n : ∀ j, j < ls.length → (rlAt ms j).n = (rlAt ls j).n + if j < i then k + 1 else k
 xs : ∀ j, j < ls.length → (rlAt ms j).xs = rowOf (mk j) (rlAt ls j).n ++ rowOf (an j) (if j < i then k + 1 else k)
 src : ∀ j, j < ls.length → (rlAt ms j).v.ownBlock = (rlAt ls j).v.ownBlock ∨ ∀ q, (rlAt ms j).v.ownBlock = some q → w.heap.size ≤ q
 mnew : ∀ q, mv.ownBlock = some q → w.heap.size ≤ q
 row : wr.ownsRow 0 et 1 lv ls.length (ls.map RL.v)
 cells : ∀ j, j < ls.length → ∀ g, (rlAt ls j).v.ownBlock = some g → ∀ c x, (rowOf (mk j) (rlAt ls j).n)[c]? = some x → wr.cell? ⟨g, c, none⟩ = some x
 kept : Kept (Blk ls) w wr
theorem Fil.full {w wr : World} {lv : Value} {ls : List RL} (h : Fil e et s mk w wr lv ls ls.length 0) {k : Nat} (hk : k < ls.length) : wr.ownsRow 0 e s (rlAt ls k).v (rlAt ls k).n (rowOf (mk k) (rlAt ls k).n) := by
 have := h.own k hk
 unfold cAt at this
 rw [if_pos hk] at this
 exact this
theorem Mor.step {w wr w' : World} {lv gv' : Value} {gm N cm : Nat} {ls ms : List RL} {k i : Nat} (hb : RLs e et s w lv ls) (h : Mor e et s mk an w wr lv (.slice (some ⟨gm, 0, none⟩) N cm) ls ms k i) (hi : i < ls.length)
  (hown : w'.ownsRow 0 e s gv' ((rlAt ms i).n + 1) ((rlAt ms i).xs ++ an i k)) (hkp : Kept (fun q => (rlAt ms i).v.ownBlock = some q) wr w')
  (hat : gv'.ownBlock = (rlAt ms i).v.ownBlock ∨ ∀ q, gv'.ownBlock = some q → wr.heap.size ≤ q)
  (hold : ∀ g, (rlAt ms i).v.ownBlock = some g → ∀ j x, (rlAt ms i).xs[j]? = some x → w'.cell? ⟨g, j, none⟩ = some x) :
  Mor e et s mk an w (w'.setCell ⟨gm, i, none⟩ gv') lv (.slice (some ⟨gm, 0, none⟩) N cm) ls (ms.set i ⟨gv', (rlAt ms i).n + 1, (rlAt ms i).xs ++ an i k⟩) k (i + 1) := by
 have hlen := h.len
 have him : i < ms.length := by omega
 have hs := h.kept.size
 have hs2 := hkp.size
 have hgm : w.heap.size ≤ gm := h.mnew gm rfl
 have hgl : gm < wr.heap.size := h.bls.lt gm rfl
 have hks := kept_set w' gm i gv'
 have hmo : ∀ j, j < ms.length → ∀ q, (rlAt ms j).v.ownBlock = some q → q ≠ gm := fun j hj q hq e => h.bls.off j hj q hq (by rw [e]; rfl)
 have hgo : ∀ q, gv'.ownBlock = some q → q ≠ gm := by
  intro q hq e
  rcases hat with e' | e'
  ·rw [e'] at hq; exact hmo i him q hq e
  ·have := e' q hq; omega
 have hN : N = ms.length := by
  rcases h.bls.row.2 with ⟨h1, _⟩ | ⟨g, cap, cur, h1, _⟩
  ·cases h1
  ·cases h1; rfl
 have hgls : ∀ q, q < w.heap.size → (rlAt ms i).v.ownBlock = some q → (rlAt ls i).v.ownBlock = some q := fun q hl hq => by
  rcases h.src i hi with e' | e'
  ·rw [← e']; exact hq
  ·have := e' q hq; omega
 have hrow1 : w'.ownsRow 0 et 1 (.slice (some ⟨gm, 0, none⟩) N cm) ms.length (ms.map RL.v) := hkp.ownsRow h.bls.row (fun q hq e => h.bls.off i him q e hq)
 refine ⟨by rw [List.length_set]; exact hlen, ⟨?_, fun j hj => ?_, fun j j2 hjj hj2 q hq => ?_, fun j hj q hq => ?_⟩, fun j hj => ?_, fun j hj => ?_, fun j hj => ?_, h.mnew, ?_, fun j hj g hg c x hx => ?_, ?_⟩
 ·subst hN
  rw [List.length_set, List.map_set]
  exact (World.ownsRow.stored hrow1 i gv').1
 ·rw [List.length_set] at hj
  rw [rl_set ms _ i j him]
  by_cases e : j = i
  ·rw [if_pos e]
   exact hks.ownsRow hown (fun q hq e => hgo q hq e)
  ·rw [if_neg e]
   exact hks.ownsRow (hkp.ownsRow (h.bls.own j hj) (fun q hq e' => e (apart_of h.bls.apart hj him hq e'))) (fun q hq e => hmo j hj q hq e)
 ·rw [List.length_set] at hj2
  rw [rl_set ms _ i j him] at hq
  rw [rl_set ms _ i j2 him]
  by_cases e : j = i
  ·rw [if_pos e] at hq
   rw [if_neg (by omega)]
   intro h2
   rcases hat with e' | e'
   ·rw [e'] at hq
    have := apart_of h.bls.apart him hj2 hq h2
    omega
   ·have h3 := e' q hq
    have h4 := h.bls.olt hj2 q h2
    omega
  ·rw [if_neg e] at hq
   by_cases e2 : j2 = i
   ·rw [if_pos e2]
    intro h2
    rcases hat with e' | e'
    ·rw [e'] at h2
     have := apart_of h.bls.apart (by omega) him hq h2
     omega
    ·have h3 := e' q h2
     have h4 := h.bls.olt (i := j) (by omega) q hq
     omega
   ·rw [if_neg e2]
    exact h.bls.apart j j2 hjj hj2 q hq
 ·rw [List.length_set] at hj
  rw [rl_set ms _ i j him] at hq
  intro h2
  have h3 : q = gm := (Option.some.inj h2).symm
  by_cases e : j = i
  ·rw [if_pos e] at hq
   exact hgo q hq h3
  ·rw [if_neg e] at hq
   exact hmo j hj q hq h3
 ·rw [rl_set ms _ i j him]
  by_cases e : j = i
  ·rw [if_pos e, if_pos (by omega)]
   have := h.n i hi
   rw [if_neg (by omega)] at this
   rw [e]
   show (rlAt ms i).n + 1 = _
   omega
  ·rw [if_neg e, h.n j hj]
   by_cases e2 : j < i
   ·rw [if_pos e2, if_pos (by omega)]
   ·rw [if_neg e2, if_neg (by omega)]
 ·rw [rl_set ms _ i j him]
  by_cases e : j = i
  ·rw [if_pos e, if_pos (by omega), e]
   have := h.xs i hi
   rw [if_neg (by omega)] at this
   show (rlAt ms i).xs ++ an i k = _
   rw [this, rowOf_succ, List.append_assoc]
  ·rw [if_neg e, h.xs j hj]
   by_cases e2 : j < i
   ·rw [if_pos e2, if_pos (by omega)]
   ·rw [if_neg e2, if_neg (by omega)]
 ·rw [rl_set ms _ i j him]
  by_cases e : j = i
  ·rw [if_pos e, e]
   rcases hat with e' | e'
   ·rcases h.src i hi with e2 | e2
    ·exact .inl (e'.trans e2)
    ·exact .inr (fun q hq => e2 q (e' ▸ hq))
   ·exact .inr (fun q hq => Nat.le_trans hs (e' q hq))
  ·rw [if_neg e]
   exact h.src j hj
 ·refine hks.ownsRow (hkp.ownsRow h.row (fun q hq e => ?_)) (fun q hq e => ?_)
  ·have hl := hb.lt q hq
   exact hb.off i hi q (hgls q hl e) hq
  ·have hl := hb.lt q hq
   omega
 ·have hl := hb.olt hj g hg
  refine hks.cell ?_ (show ¬ g = gm by omega)
  by_cases e : (rlAt ms i).v.ownBlock = some g
  ·have e2 := hgls g hl e
   have hij : j = i := apart_of hb.apart hj hi hg e2
   subst hij
   refine hold g e c x ?_
   rw [h.xs j hj, List.getElem?_append_left (List.getElem?_eq_some_iff.1 hx).1]
   exact hx
  ·exact hkp.cell (h.cells j hj g hg c x hx) e
 ·exact (h.kept.step hkp (fun q hq e => ⟨i, hi, hgls q hq e⟩)).setCell (.inl hgm) _
theorem Mor.turn {w wr : World} {lv mv : Value} {ls ms : List RL} {k i : Nat} (h : Mor e et s mk an w wr lv mv ls ms k i) (hi : i = ls.length) : Mor e et s mk an w wr lv mv ls ms (k + 1) 0 := by
 subst hi
 refine ⟨h.len, h.bls, fun j hj => ?_, fun j hj => ?_, h.src, h.mnew, h.row, h.cells, h.kept⟩
 ·rw [h.n j hj, if_pos hj, if_neg (by omega)]
 ·rw [h.xs j hj, if_pos hj, if_neg (by omega)]
theorem Mor.same {w wr w' : World} {lv mv : Value} {ls ms : List RL} {k i : Nat} (h : Mor e et s mk an w wr lv mv ls ms k i) (hk : Kept (fun _ => False) wr w') : Mor e et s mk an w w' lv mv ls ms k i :=
 ⟨h.len, h.bls.same hk, h.n, h.xs, h.src, h.mnew, hk.ownsRow h.row (fun _ _ f => f), fun j hj g hg c x hx => hk.cell (h.cells j hj g hg c x hx) id, h.kept.step hk (fun _ _ f => f.elim)⟩
theorem own_at {w : World} {B : Nat} {v : Value} {n : Nat} {xs : List Value} (h : w.ownsRow B e s v n xs) (hn : 0 < n) : ∃ g c, v = .slice (some ⟨g, 0, none⟩) n c := by
 rcases h.2 with ⟨_, h0⟩ | ⟨g, cap, cur, e, _⟩
 ·omega
 ·exact ⟨g, cap, e⟩
theorem RLs.one {w : World} {lv : Value} {ls : List RL} (h : RLs e et s w lv ls) : ∀ u ∈ ls.map RL.v, u.oneCell' = true := by
 intro u hu
 obtain ⟨r, hr, rfl⟩ := List.mem_map.1 hu
 obtain ⟨i, hi⟩ := List.mem_iff_getElem?.1 hr
 have hl := (List.getElem?_eq_some_iff.1 hi).1
 have h1 := h.own i hl
 rw [rlAt_get hl] at hi
 have e1 : rlAt ls i = r := Option.some.inj hi
 rw [e1] at h1
 rcases h1.2 with ⟨h2, _⟩ | ⟨g, cap, cur, h2, _⟩ <;> rw [h2] <;> rfl
end
end Go.Proofs.YtpfmhibdmehlcaaGreatDoor

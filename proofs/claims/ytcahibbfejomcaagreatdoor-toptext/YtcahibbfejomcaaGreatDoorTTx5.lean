import Derived.Test.YtcahibbfejomcaaGreatDoorTTx4
import Derived.Test.YtcahibbfejomcaaGreatDoorTTx2
namespace Go.Proofs.YtcahibbfejomcaaGreatDoor
open Go.RowKit
set_option linter.unusedVariables false
set_option linter.unusedSimpArgs false
structure FN where
 a : Int
 l : Int
 r : Int
 code : List IN
structure PG where
 mem : Int
 data : List Int
 fns : List FN
structure FN.Ok (f : FN) : Prop where
 a : -9223372036854775808 ≤ f.a ∧ f.a < 9223372036854775808
 l : -9223372036854775808 ≤ f.l ∧ f.l < 9223372036854775808
 r : -9223372036854775808 ≤ f.r ∧ f.r < 9223372036854775808
 code : ∀ y ∈ f.code, y.Ok
 len : f.code.length * 16 ≤ 140737488351232
structure PG.Ok (p : PG) : Prop where
 mem : -9223372036854775808 ≤ p.mem ∧ p.mem < 9223372036854775808
 data : BytesOk p.data
 fns : ∀ f ∈ p.fns, f.Ok
 len : p.fns.length * 48 ≤ 140737488351232
def FN.cells (f : FN) (cv : Value) : List Value := [.int .i64 f.a, .int .i64 f.l, .int .i64 f.r, cv]
def FnAt (w : World) (B g o : Nat) (f : FN) : Prop := ∃ cv, w.rangeAt g o (f.cells cv) ∧ RowI w cv f.code ∧ ∀ q, cv.ownBlock = some q → 0 < f.code.length → q < B
def RowF (w : World) (B : Nat) (v : Value) (fs : List FN) : Prop :=
 (fs = [] ∧ ∃ ao c, v = .slice ao 0 c) ∨ ∃ g o c, v = .slice (some ⟨g, o, none⟩) fs.length c ∧ g < B ∧ ∀ i f, fs[i]? = some f → FnAt w B g (o + i * 4) f
def PgIs (w : World) (B : Nat) (v : Value) (p : PG) : Prop :=
 ∃ dv fv, v = .agg #[.int .i64 p.mem, dv, fv] ∧ IsB w dv p.data ∧ (∀ q, dv.ownBlock = some q → q < B) ∧ RowF w B fv p.fns
theorem RowI.keptB {S : Nat → Prop} {w w' : World} {v : Value} {ys : List IN} (h : RowI w v ys) (hk : Kept S w w') (hS : ∀ g, v.ownBlock = some g → 0 < ys.length → ¬ S g) : RowI w' v ys := by
 by_cases h0 : 0 < ys.length
 ·exact h.kept hk (fun g hg => hS g hg h0)
 ·have e : ys = [] := List.length_eq_zero_iff.1 (by omega)
  subst e
  obtain ⟨ao, c, rfl⟩ := h.shape
  exact .inl ⟨rfl, ao, c, rfl⟩
theorem FnAt.kept {S : Nat → Prop} {w w' : World} {B g o : Nat} {f : FN} (h : FnAt w B g o f) (hk : Kept S w w') (hg : g < B) (hS : ∀ q, q < B → ¬ S q) : FnAt w' B g o f := by
 obtain ⟨cv, h1, h2, h3⟩ := h
 exact ⟨cv, fun j v hj => hk.cell (h1 j v hj) (hS g hg), h2.keptB hk (fun q hq h0 => hS q (h3 q hq h0)), h3⟩
theorem RowF.kept {S : Nat → Prop} {w w' : World} {B : Nat} {v : Value} {fs : List FN} (h : RowF w B v fs) (hk : Kept S w w') (hS : ∀ q, q < B → ¬ S q) : RowF w' B v fs := by
 rcases h with h | ⟨g, o, c, e, hg, h⟩
 ·exact .inl h
 ·exact .inr ⟨g, o, c, e, hg, fun i f hf => (h i f hf).kept hk hg hS⟩
theorem RowF.shape {w : World} {B : Nat} {v : Value} {fs : List FN} (h : RowF w B v fs) : ∃ ao c, v = .slice ao fs.length c := by
 rcases h with ⟨rfl, ao, c, rfl⟩ | ⟨g, o, c, rfl, _⟩
 ·exact ⟨ao, c, rfl⟩
 ·exact ⟨_, c, rfl⟩
theorem RowF.at {w : World} {B : Nat} {ao : Option Addr} {n c : Nat} {fs : List FN} (h : RowF w B (.slice ao n c) fs) {i : Nat} (hi : i < fs.length) : ∃ g o f, ao = some ⟨g, o, none⟩ ∧ g < B ∧ fs[i]? = some f ∧ FnAt w B g (o + i * 4) f := by
 rcases h with ⟨e, _⟩ | ⟨g, o, c', e, hg, h⟩
 ·rw [e] at hi; simp at hi
 ·cases e
  exact ⟨g, o, fs[i], rfl, hg, List.getElem?_eq_getElem hi, h i _ (List.getElem?_eq_getElem hi)⟩
theorem PgIs.kept {S : Nat → Prop} {w w' : World} {B : Nat} {v : Value} {p : PG} (h : PgIs w B v p) (hk : Kept S w w') (hS : ∀ q, q < B → ¬ S q) : PgIs w' B v p := by
 obtain ⟨dv, fv, e, h1, h2, h3⟩ := h
 exact ⟨dv, fv, e, h1.kept hk (fun q hq => hS q (h2 q hq)), h2, h3.kept hk hS⟩
def badF (f : FN) : Bool := decide (f.a < 0 ∨ 16 < f.a ∨ f.l < f.a ∨ 64 < f.l ∨ f.r < 0 ∨ 1 < f.r ∨ f.code.length < 1 ∨ 4096 < f.code.length)
def errF (f : FN) : Int := if badF f = true then 121 else encE f.code
def firstF : List FN → Int
 | [] => 0
 | f :: fs => if errF f = 0 then firstF fs else errF f
def badP (p : PG) : Bool := decide (p.mem < 0 ∨ 65536 < p.mem ∨ p.mem < p.data.length ∨ p.fns.length < 1 ∨ 64 < p.fns.length)
def checkP (p : PG) : Int := if badP p = true then 121 else firstF p.fns
theorem firstF_bad : ∀ (fs : List FN) (i : Nat) (f : FN), (∀ x ∈ fs.take i, errF x = 0) → fs[i]? = some f → errF f ≠ 0 → firstF fs = errF f
 | [], i, f, _, h, _ => by simp at h
 | g :: fs, 0, f, _, h, hf => by
  have e : g = f := by simpa using h
  subst e
  rw [firstF, if_neg hf]
 | g :: fs, i + 1, f, ht, h, hf => by
  have h0 : errF g = 0 := ht g (by simp)
  rw [firstF, if_pos h0]
  exact firstF_bad fs i f (fun x hx => ht x (by simp [hx])) (by simpa using h) hf
theorem firstF_good : ∀ (fs : List FN), (∀ x ∈ fs, errF x = 0) → firstF fs = 0
 | [], _ => rfl
 | g :: fs, h => by rw [firstF, if_pos (h g (by simp))]; exact firstF_good fs (fun x hx => h x (by simp [hx]))
theorem firstF_zero : ∀ (fs : List FN), firstF fs = 0 → ∀ x ∈ fs, errF x = 0
 | [], _, x, hx => by simp at hx
 | g :: fs, h, x, hx => by
  rw [firstF] at h
  by_cases h0 : errF g = 0
  ·rw [if_pos h0] at h
   rcases List.mem_cons.1 hx with rfl | hx
   ·exact h0
   ·exact firstF_zero fs h x hx
  ·rw [if_neg h0] at h; exact absurd h h0
theorem take_good {fs : List FN} {i : Nat} {f : FN} (h : ∀ x ∈ fs.take i, errF x = 0) (hf : fs[i]? = some f) (h0 : errF f = 0) : ∀ x ∈ fs.take (i + 1), errF x = 0 := by
 intro x hx
 rw [List.take_add_one, hf] at hx
 rcases List.mem_append.1 hx with hx | hx
 ·exact h x hx
 ·have : x = f := by simpa using hx
  rw [this]; exact h0
theorem fn_read {w : World} {B g o : Nat} {f : FN} (h : FnAt w B g o f) : ∃ ao c, w.cell? ⟨g, o, none⟩ = some (.int .i64 f.a) ∧ w.cell? ⟨g, o + 1, none⟩ = some (.int .i64 f.l) ∧ w.cell? ⟨g, o + 2, none⟩ = some (.int .i64 f.r) ∧ w.cell? ⟨g, o + 3, none⟩ = some (.slice ao f.code.length c) ∧ RowI w (.slice ao f.code.length c) f.code ∧ ∀ q, (Value.slice ao f.code.length c).ownBlock = some q → 0 < f.code.length → q < B := by
 obtain ⟨cv, h1, h2, h3⟩ := h
 obtain ⟨ao, c, rfl⟩ := h2.shape
 exact ⟨ao, c, h1 0 _ rfl, h1 1 _ rfl, h1 2 _ rfl, h1 3 _ rfl, h2, h3⟩
theorem bad_cases (p : PG) : (p.mem < 0 ∨ (0 ≤ p.mem ∧ 65536 < p.mem) ∨ (0 ≤ p.mem ∧ p.mem ≤ 65536 ∧ p.mem < p.data.length) ∨ (0 ≤ p.mem ∧ p.mem ≤ 65536 ∧ p.data.length ≤ p.mem ∧ p.fns.length < 1) ∨ (0 ≤ p.mem ∧ p.mem ≤ 65536 ∧ p.data.length ≤ p.mem ∧ 1 ≤ p.fns.length ∧ 64 < p.fns.length)) ∧ badP p = true ∨ (0 ≤ p.mem ∧ p.mem ≤ 65536 ∧ p.data.length ≤ p.mem ∧ 1 ≤ p.fns.length ∧ p.fns.length ≤ 64) ∧ badP p = false := by
 unfold badP
 by_cases h : p.mem < 0 ∨ 65536 < p.mem ∨ p.mem < p.data.length ∨ p.fns.length < 1 ∨ 64 < p.fns.length
 ·left
  exact ⟨by omega, by simpa using h⟩
 ·right
  exact ⟨by omega, by simpa using h⟩
theorem badF_cases (f : FN) : (f.a < 0 ∨ (0 ≤ f.a ∧ 16 < f.a) ∨ (0 ≤ f.a ∧ f.a ≤ 16 ∧ f.l < f.a) ∨ (0 ≤ f.a ∧ f.a ≤ 16 ∧ f.a ≤ f.l ∧ 64 < f.l) ∨ (0 ≤ f.a ∧ f.a ≤ 16 ∧ f.a ≤ f.l ∧ f.l ≤ 64 ∧ f.r < 0) ∨ (0 ≤ f.a ∧ f.a ≤ 16 ∧ f.a ≤ f.l ∧ f.l ≤ 64 ∧ 0 ≤ f.r ∧ 1 < f.r) ∨ (0 ≤ f.a ∧ f.a ≤ 16 ∧ f.a ≤ f.l ∧ f.l ≤ 64 ∧ 0 ≤ f.r ∧ f.r ≤ 1 ∧ f.code.length < 1) ∨ (0 ≤ f.a ∧ f.a ≤ 16 ∧ f.a ≤ f.l ∧ f.l ≤ 64 ∧ 0 ≤ f.r ∧ f.r ≤ 1 ∧ 1 ≤ f.code.length ∧ 4096 < f.code.length)) ∧ errF f = 121 ∨
  (0 ≤ f.a ∧ f.a ≤ 16 ∧ f.a ≤ f.l ∧ f.l ≤ 64 ∧ 0 ≤ f.r ∧ f.r ≤ 1 ∧ 1 ≤ f.code.length ∧ f.code.length ≤ 4096) ∧ errF f = encE f.code := by
 unfold errF badF
 by_cases h : f.a < 0 ∨ 16 < f.a ∨ f.l < f.a ∨ 64 < f.l ∨ f.r < 0 ∨ 1 < f.r ∨ f.code.length < 1 ∨ 4096 < f.code.length
 ·left
  refine ⟨by omega, ?_⟩
  rw [if_pos (by simpa using h)]
 ·right
  refine ⟨by omega, ?_⟩
  rw [if_neg (by simpa using h)]
end Go.Proofs.YtcahibbfejomcaaGreatDoor
namespace Go.Proofs.YtcahibbfejomcaaGreatDoor
open Go.RowKit
set_option linter.unusedVariables false
set_option linter.unusedSimpArgs false
section
variable {P : Program} (w : World)
theorem append_old (base : Nat) (t ty e : TypeId) (i : TypeInfo) (z : Value) (size bytes : Nat) (ht : P.underlying t = some (.slice e)) (hi : P.info? e = some i) (hz : i.zero = some z)
  (hsize : i.size = size) (hby : i.bytes = bytes) (hzs : z.cells.size = size) (hsz : 0 < size)
  (v : Value) (n : Nat) (xs : List Value) (hown : w.ownsRow base e size v n xs)
  (a : Addr) (m c : Nat) (news : List Value) (hl : news.length = m * size) (hnews : ∀ j u, news[j]? = some u → w.cell? (a.add j) = some u) (h1 : ∀ u ∈ news, u.oneCell' = true)
  (h63 : n + m ≤ maxLen) (hbytes : (n + m) * bytes ≤ 140737488355328) (hbase : base ≤ w.heap.size) :
  ∃ v' w', (Builtin.append_ #[t, t] ty #[v, .slice (some a) m c]).run P w = .ok v' w' ∧ w'.ownsRow base e size v' (n + m) (xs ++ news) ∧ w.grownBy w' v.ownBlock ∧
   (v'.ownBlock = v.ownBlock ∨ v'.ownBlock = some w.heap.size) ∧ (∀ g, v.ownBlock = some g → ∀ j u, xs[j]? = some u → w'.cell? ⟨g, j, none⟩ = some u) := by
 obtain ⟨v', w', hr, h2, h3, h4, h5⟩ := run_append_own_at (P := P) w base t ty e i z size bytes ht hi hz hsize hby hzs hsz v n xs hown a m c news hl hnews h1 h63 hbytes hbase
 refine ⟨v', w', hr, h2, h3, h5, fun g hg j u hu => ?_⟩
 subst hsize
 subst hby
 rcases hown.2 with ⟨rfl, rfl⟩ | ⟨g', cap, cur, rfl, hbg, hgg, hnc, hcm, hcs, htake⟩
 ·cases hg
 ·have eg : g' = g := Option.some.inj hg
  subst eg
  by_cases hroom : n + m ≤ cap
  ·have hfit : n * i.size + news.length ≤ cur.size := by rw [hl, hcs, ← Nat.add_mul]; exact Nat.mul_le_mul_right _ hroom
   have hr' := run_append_room (P := P) w t ty e i ht hi g' n cap cur hgg a m c news hl hnews h1 hroom hfit
   rw [hr'] at hr
   cases hr
   have := h2.cells (g := g') rfl j u (by rw [List.getElem?_append_left (List.getElem?_eq_some_iff.1 hu).1]; exact hu)
   rw [Addr.add_lit, Nat.zero_add] at this
   exact this
  ·have holds : ∀ j u, xs[j]? = some u → w.cell? ((⟨g', 0, none⟩ : Addr).add j) = some u := hown.cells (g := g') rfl
   have hr' := run_append_grow (P := P) w t ty e i z ht hi hz ⟨g', 0, none⟩ n cap xs hown.1 holds a m c news hl hnews (by omega) (by simp only [maxLen] at h63; omega) (growslice_fits (by omega) hbytes)
   rw [hr'] at hr
   cases hr
   have hq := holds j u hu
   rw [Addr.add_lit, Nat.zero_add] at hq
   have hlt := World.block_lt_of_cell? w _ hq
   rw [World.cell?_of_block (w := w) (show (w.drew.alloc _).heap[g']? = w.heap[g']? from Below.heap_alloc w.drew _ _ hlt)]
   exact hq
end
theorem own_mono {w : World} {B B' e s : Nat} {v : Value} {m : Nat} {l : List Value} (h : w.ownsRow B' e s v m l) (hB : B ≤ B') : w.ownsRow B e s v m l :=
 ⟨h.1, h.2.imp id fun ⟨g, c, cur, a, b, r⟩ => ⟨g, c, cur, a, Nat.le_trans hB b, r⟩⟩
section
variable {e et s : Nat} {mk an : Nat → Nat → List Value}
theorem own_at {w : World} {B : Nat} {v : Value} {n : Nat} {xs : List Value} (h : w.ownsRow B e s v n xs) (hn : 0 < n) : ∃ g c, v = .slice (some ⟨g, 0, none⟩) n c := by
 rcases h.2 with ⟨_, h0⟩ | ⟨g, cap, cur, e, _⟩
 ·omega
 ·exact ⟨g, cap, e⟩
end
end Go.Proofs.YtcahibbfejomcaaGreatDoor

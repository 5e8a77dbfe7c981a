/-
  The law of one file: one write, whatever is written; the box of a cell beside it.
-/
import Derived.Test.YtmkfjdfpcjkmnaaVy
namespace Go.Proofs.Ytmkfjdfpcjkmnaa
open Go.RowKit
set_option linter.unusedVariables false
set_option linter.unusedSimpArgs false
set_option maxRecDepth 100000

/-- A cell of the law. -/
structure Cl where
  h : Int
  bv : Value
  ys : List Int
  cut : Bool
def Cl.cells (c : Cl) : List Value := [.int .i64 c.h, c.bv, .bool c.cut]
def Cl.Ok (w : World) (c : Cl) : Prop :=
  -9223372036854775808 ≤ c.h ∧ c.h ≤ 9223372036854775807 ∧ ∃ ao cap, c.bv = .slice ao c.ys.length cap ∧ c.ys.length ≤ cap ∧ ∀ j u, (ints c.ys)[j]? = some u → ∃ g o, ao = some ⟨g, o, none⟩ ∧ w.cell? ⟨g, o + j, none⟩ = some u
def Cls (w : World) (bo : Option Addr) (cs : List Cl) : Prop := ∀ i c, cs[i]? = some c → c.Ok w ∧ ∃ g o, bo = some ⟨g, o, none⟩ ∧ w.rangeAt g (o + i * 3) c.cells
def Nums (w : World) (ao : Option Addr) (ms : List Int) : Prop := ∀ i x, ms[i]? = some x → -9223372036854775808 ≤ x ∧ x ≤ 9223372036854775807 ∧ ∃ g o, ao = some ⟨g, o, none⟩ ∧ w.cell? ⟨g, o + i, none⟩ = some (.int .i64 x)
/-- Where a handle writes. -/
def tgOf (x : Nat × Int) (n : Nat) : Nat := if x.2 = 3 then n else x.1
/-- The state behind a write. -/
def after (xs : List Int) (hd : List (Nat × Int)) (a : Nat) (x : Nat × Int) (ys : List Int) : List Int × List (Nat × Int) :=
  if ys = [] then (xs, hd) else (layB xs (tgOf x xs.length) ys, hd.set a (tgOf x xs.length + ys.length, x.2))
def WrR (w : World) (s : Nat) (σ : FSt) (p : List Int × List (Nat × Int)) (e : Ending) (w' : World) : Prop :=
  e = .returned (.int .i64 0) ∧ ∃ σ', KSt σ' p.1 p.2 ∧ Fs w' s σ' ∧ Grows σ σ' s w.heap.size ∧ Kept (fun k => σ.own s k) w w'
theorem write_any {w : World} {s : Nat} {σ : FSt} {xs : List Int} {hd : List (Nat × Int)} (H : Fs w s σ) (K : KSt σ xs hd) (a : Nat) (x : Nat × Int) (hx : hd[a]? = some x) (hm : x.2 = 1 ∨ x.2 = 3) (ys : List Int) (ao : Option Addr) (c : Nat) (hyc : ys.length ≤ c) (hb : x.1 + ys.length ≤ 50000) (hb2 : xs.length + ys.length ≤ 50000)
    (hsrc : ∀ j u, (ints ys)[j]? = some u → ∃ g o, ao = some ⟨g, o, none⟩ ∧ w.cell? ⟨g, o + j, none⟩ = some u) (hap : ∀ p, ys ≠ [] → ao = some p → ¬ σ.own s p.block) :
    Calls Try.prog 16 #[.pointer (some ⟨s, 0, none⟩), .int .i64 a, .slice ao ys.length c] w fun e w' => WrR w s σ (after xs hd a x ys) e w' := by
  obtain ⟨dv, hf⟩ := K.f
  have hh := K.h a x hx
  by_cases h0 : ys = []
  · subst h0
    refine (write_none H (a : Int) ⟨pX, x.1, x.2⟩ hh (by simp only; omega) ⟨pX, pX, dv, xs⟩ hf ao c).mono ?_
    rintro e w' ⟨he, hk⟩
    exact ⟨he, σ, by rw [after, if_pos rfl]; exact K, H.same hk, Grows.refl _ _ _, hk.mono (fun _ _ f => f.elim)⟩
  · have hl : 0 < ys.length := List.length_pos_iff.2 h0
    have hl' : 0 < (ints ys).length := by rw [ints_len]; exact hl
    obtain ⟨g, o, rfl, _⟩ := hsrc 0 _ (List.getElem?_eq_getElem hl')
    have htg : tgt ⟨pX, x.1, x.2⟩ xs.length = (tgOf x xs.length : Nat) := by
      unfold tgt tgOf
      simp only
      split <;> simp
    have hle : tgOf x xs.length + ys.length ≤ 50000 := by unfold tgOf; split <;> omega
    have hq := K.q
    have hub := K.ub
    refine (write_ok H (a : Int) ⟨pX, x.1, x.2⟩ hh (by simp only; omega) ⟨pX, pX, dv, xs⟩ hf ys g o c (fun j u hu => by
      obtain ⟨g', o', he, hc⟩ := hsrc j u hu
      cases he
      exact hc) hyc hl (hap _ h0 rfl) (tgOf x xs.length) htg (by omega) (by rw [hq.1, hub]; simp only; omega) (by omega) (by omega) (by omega)).mono ?_
    rintro e w' ⟨he, dv', b, b', hdv, hF, hk⟩
    refine ⟨he, _, ?_, hF, grows_F rfl rfl rfl rfl rfl hdv, hk⟩
    rw [after, if_neg h0]
    exact K.wrote a x.1 x.2 hx (tgOf x xs.length) ys (by omega) dv' b b'
/-- The law's rows, and the box of a cell beside them. -/
structure RB (W w : World) (s : Nat) (σ : FSt) (v : Nat → Value) (l : Nat → List Value) (q : Nat) (c : Cl) : Prop extends RI W w s σ v l where
  bx : w.heap[q]? = some (.cells c.cells.toArray 50 (0, 0))
  bo : ¬ σ.own s q
theorem RB.quiet {W w w' : World} {s : Nat} {σ : FSt} {v : Nat → Value} {l : Nat → List Value} {q : Nat} {c : Cl} (R : RB W w s σ v l q c) (hk : Kept (fun _ => False) w w') : RB W w' s σ v l q c :=
  ⟨R.toRI.quiet hk, (hk.block q (heap_lt R.bx) (fun f => f)).trans R.bx, R.bo⟩
theorem RB.fsop {W w w' : World} {s : Nat} {σ σ' : FSt} {v : Nat → Value} {l : Nat → List Value} {q : Nat} {c : Cl} (R : RB W w s σ v l q c) (hk : Kept (fun k => σ.own s k) w w') (hF : Fs w' s σ') (hg : Grows σ σ' s w.heap.size) : RB W w' s σ' v l q c :=
  ⟨R.toRI.fsop hk hF hg, (hk.block q (heap_lt R.bx) R.bo).trans R.bx, fun e => by
    rcases hg q e with h | h
    · exact R.bo h
    · have := heap_lt R.bx
      omega⟩
theorem row_box {w : World} {q B e : Nat} {cs : Array Value} {t : Nat} (ht : t ≠ e) (hb : w.heap[q]? = some (.cells cs t (0, 0))) {v : Value} {n : Nat} {xs : List Value} (ho : w.ownsRow B e 1 v n xs) : v.ownBlock ≠ some q := fun h => by
  obtain ⟨_, ⟨rfl, _⟩ | ⟨g, cap, cur, rfl, _, hg, _⟩⟩ := ho
  · cases h
  · cases h
    rw [hb] at hg
    injection hg with hg
    injection hg with _ h2 _
    exact ht h2
theorem RB.push {W w w' : World} {s : Nat} {σ : FSt} {v : Nat → Value} {l : Nat → List Value} {q : Nat} {c : Cl} (R : RB W w s σ v l q c) (i : Nat) (hi : i < 4) (hk : Kept (fun k => (v i).ownBlock = some k) w w') {V : Nat → Value} {L : Nat → List Value} (hr : w'.ownsRow W.heap.size (e4 i) 1 (V i) (L i).length (L i)) (hn : ∀ g, (V i).ownBlock = some g → (v i).ownBlock = some g ∨ w.heap.size ≤ g)
    (hV : ∀ j, j < 4 → j ≠ i → V j = v j) (hL : ∀ j, j < 4 → j ≠ i → L j = l j) : RB W w' s σ V L q c :=
  ⟨R.toRI.push i hi hk hr hn hV hL, (hk.block q (heap_lt R.bx) (row_box (by
    match i, hi with
    | 0, _ => decide
    | 1, _ => decide
    | 2, _ => decide
    | 3, _ => decide) R.bx (R.r i hi))).trans R.bx, R.bo⟩
theorem RI.rowH {W w : World} {s : Nat} {σ : FSt} {v8 v9 v10 wv : Value} {hd : List (Nat × Int)} {xs : List Int} (R : RI W w s σ (v4 v8 v9 v10 wv) (lst hd xs)) : w.ownsRow W.heap.size 3 1 v8 hd.length (num (rng hd.length)) := by
  have h : w.ownsRow W.heap.size 3 1 v8 (num (rng hd.length)).length (num (rng hd.length)) := R.r 0 (by omega)
  rw [show (num (rng hd.length)).length = hd.length by rw [num_len, rng_len]] at h
  exact h
theorem RI.rowP {W w : World} {s : Nat} {σ : FSt} {v8 v9 v10 wv : Value} {hd : List (Nat × Int)} {xs : List Int} (R : RI W w s σ (v4 v8 v9 v10 wv) (lst hd xs)) : w.ownsRow W.heap.size 3 1 v9 hd.length (num (hd.map fun x : Nat × Int => (x.1 : Int))) := by
  have h : w.ownsRow W.heap.size 3 1 v9 (num (hd.map fun x : Nat × Int => (x.1 : Int))).length _ := R.r 1 (by omega)
  rw [num_len, List.length_map] at h
  exact h
theorem RI.rowM {W w : World} {s : Nat} {σ : FSt} {v8 v9 v10 wv : Value} {hd : List (Nat × Int)} {xs : List Int} (R : RI W w s σ (v4 v8 v9 v10 wv) (lst hd xs)) : w.ownsRow W.heap.size 3 1 v10 hd.length (num (hd.map fun x : Nat × Int => x.2)) := by
  have h : w.ownsRow W.heap.size 3 1 v10 (num (hd.map fun x : Nat × Int => x.2)).length _ := R.r 2 (by omega)
  rw [num_len, List.length_map] at h
  exact h
theorem RI.rowW {W w : World} {s : Nat} {σ : FSt} {v8 v9 v10 wv : Value} {hd : List (Nat × Int)} {xs : List Int} (R : RI W w s σ (v4 v8 v9 v10 wv) (lst hd xs)) : w.ownsRow W.heap.size 5 1 wv xs.length (ints xs) := by
  have h : w.ownsRow W.heap.size 5 1 wv (ints xs).length _ := R.r 3 (by omega)
  rw [ints_len] at h
  exact h
theorem row_at {w : World} {B e n c m : Nat} {ao : Option Addr} {xs : List Value} (h : w.ownsRow B e 1 (.slice ao n c) m xs) (h0 : 0 < m) : ∃ g, ao = some ⟨g, 0, none⟩ := by
  rcases h.2 with ⟨_, h1⟩ | ⟨g, cap, cur, h1, _⟩
  · omega
  · cases h1
    exact ⟨g, rfl⟩
theorem num_at {l : List Int} {a : Nat} {x : Int} (h : l[a]? = some x) : (num l)[a]? = some (.int .i64 x) := by
  rw [num, List.getElem?_map, h]
  rfl
theorem rng_at {n a : Nat} (h : a < n) : (rng n)[a]? = some (a : Int) := by
  rw [rng, List.getElem?_map, List.getElem?_range h]
  rfl
theorem after_ok {xs ys : List Int} {hd : List (Nat × Int)} {a B : Nat} {x : Nat × Int} (hx : hd[a]? = some x) (hm : ∀ y ∈ hd, y.1 ≤ B ∧ (y.2 = 1 ∨ y.2 = 3)) (hl : xs.length ≤ B) (hy : ys.length ≤ 100) :
    (after xs hd a x ys).2.length = hd.length ∧ (∀ y ∈ (after xs hd a x ys).2, y.1 ≤ B + 100 ∧ (y.2 = 1 ∨ y.2 = 3)) ∧ (after xs hd a x ys).1.length ≤ B + 100 := by
  have hx0 := hm x (List.mem_of_getElem? hx)
  unfold after
  split
  · exact ⟨rfl, fun y hy => ⟨by have := (hm y hy).1; omega, (hm y hy).2⟩, by simp only; omega⟩
  · have htg : tgOf x xs.length ≤ B := by unfold tgOf; split <;> omega
    refine ⟨List.length_set, fun y hyy => ?_, ?_⟩
    · rcases List.mem_or_eq_of_mem_set hyy with h | h
      · exact ⟨by have := (hm y h).1; omega, (hm y h).2⟩
      · subst h
        exact ⟨by simp only; omega, hx0.2⟩
    · simp only
      rw [layB_len]
      omega
theorem kept_set_row (w : World) (g a n c : Nat) (u : Value) : Kept (fun k => (Value.slice (some ⟨g, 0, none⟩) n c).ownBlock = some k) w (w.setCell ⟨g, a, none⟩ u) := (kept_set w ⟨g, a, none⟩ u).mono (fun k _ e => by rw [e]; rfl)
theorem own_n {w : World} {B e n m : Nat} {v : Value} {xs : List Value} (h : w.ownsRow B e 1 v n xs) (e1 : n = m) : w.ownsRow B e 1 v m xs := by subst e1; exact h
theorem map_set_one {hd : List (Nat × Int)} {a p : Nat} {x : Nat × Int} (hx : hd[a]? = some x) : ((hd.set a (p, x.2)).map fun y : Nat × Int => y.2) = hd.map fun y : Nat × Int => y.2 := by
  rw [List.map_set]
  apply List.ext_getElem?
  intro i
  rw [List.getElem?_set]
  split
  · rename_i hi
    subst hi
    rw [List.getElem?_map, hx]
    split
    · rfl
    · rename_i hl
      have := (List.getElem?_eq_some_iff.1 hx).1
      rw [List.length_map] at hl
      omega
  · rfl
/-- A place stored. -/
theorem RB.place {W w : World} {s : Nat} {σ : FSt} {v8 v10 wv : Value} {g9 n c9 : Nat} {hd : List (Nat × Int)} {xs : List Int} {q : Nat} {c : Cl} (R : RB W w s σ (v4 v8 (.slice (some ⟨g9, 0, none⟩) n c9) v10 wv) (lst hd xs) q c) (hn : hd.length = n) (a : Nat) (x : Nat × Int) (hx : hd[a]? = some x) (p : Nat) :
    RB W (w.setCell ⟨g9, a, none⟩ (.int .i64 p)) s σ (v4 v8 (.slice (some ⟨g9, 0, none⟩) n c9) v10 wv) (lst (hd.set a (p, x.2)) xs) q c := by
  have hr := own_n R.toRI.rowP hn
  refine R.push 1 (by omega) (kept_set_row w g9 a n c9 _) ?_ (fun g hg => .inl hg) (fun j _ _ => rfl) (fun j hj hji => ?_)
  · show World.ownsRow _ _ 3 1 _ (num ((hd.set a (p, x.2)).map fun y : Nat × Int => (y.1 : Int))).length (num ((hd.set a (p, x.2)).map fun y : Nat × Int => (y.1 : Int)))
    have h2 := hr.stored a (.int .i64 p)
    rw [show num ((hd.set a (p, x.2)).map fun y : Nat × Int => (y.1 : Int)) = (num (hd.map fun y : Nat × Int => (y.1 : Int))).set a (.int .i64 p) by rw [num, num, List.map_set, List.map_set]]
    rw [List.length_set, num_len, List.length_map, hn]
    exact h2.1
  · match j, hj, hji with
    | 0, _, _ => show num (rng (hd.set a (p, x.2)).length) = _; rw [List.length_set]; rfl
    | 1, _, h => exact absurd rfl h
    | 2, _, _ => show num _ = num _; rw [map_set_one hx]
    | 3, _, _ => rfl
/-- A byte stored. -/
theorem RB.byte {W w : World} {s : Nat} {σ : FSt} {v8 v9 v10 : Value} {g n c9 : Nat} {hd : List (Nat × Int)} {xs : List Int} {q : Nat} {c : Cl} (R : RB W w s σ (v4 v8 v9 v10 (.slice (some ⟨g, 0, none⟩) n c9)) (lst hd xs) q c) (hn : xs.length = n) (a : Nat) (b : Int) :
    RB W (w.setCell ⟨g, a, none⟩ (.int .u8 b)) s σ (v4 v8 v9 v10 (.slice (some ⟨g, 0, none⟩) n c9)) (lst hd (xs.set a b)) q c := by
  have hr := own_n R.toRI.rowW hn
  refine R.push 3 (by omega) (kept_set_row w g a n c9 _) ?_ (fun g hg => .inl hg) (fun j _ _ => rfl) (fun j hj hji => ?_)
  · show World.ownsRow _ _ 5 1 _ (ints (xs.set a b)).length (ints (xs.set a b))
    have h2 := hr.stored a (.int .u8 b)
    rw [show ints (xs.set a b) = (ints xs).set a (.int .u8 b) by rw [ints, ints, List.map_set]]
    rw [List.length_set, ints_len, hn]
    exact h2.1
  · match j, hj, hji with
    | 0, _, _ => rfl
    | 1, _, _ => rfl
    | 2, _, _ => rfl
    | 3, _, h => exact absurd rfl h
/-- A byte more. -/
theorem RB.more {W w : World} {s : Nat} {σ : FSt} {v8 v9 v10 wv : Value} {hd : List (Nat × Int)} {xs : List Int} {q : Nat} {c : Cl} (R : RB W w s σ (v4 v8 v9 v10 wv) (lst hd xs) q c) (h : xs.length ≤ 1000000) (b : Int) :
    ∃ v' w', (Builtin.append_ #[33, 33] 33 #[wv, .slice (some ⟨w.heap.size, 0, none⟩) 1 1]).run Try.prog (w.alloc (.cells #[.int .u8 b] 5)) = .ok v' w' ∧ RB W w' s σ (v4 v8 v9 v10 v') (lst hd (xs ++ [b])) q c := by
  obtain ⟨i, hi, hz, hs, hby⟩ := info_parts info5
  have hb3 : (w.alloc (.cells #[.int .u8 b] 5)).heap[w.heap.size]? = some (.cells #[.int .u8 b] 5 (0, 0)) := alloc_new _ _ rfl
  have hsz := R.k.size
  obtain ⟨v', w', h1, h2, h3, _, h4⟩ := run_append_own_at (P := Try.prog) (w.alloc (.cells #[.int .u8 b] 5)) W.heap.size 33 33 5 i _ 1 1 Try.underlying33 hi hz hs hby rfl (by decide) wv xs.length (ints xs) (R.toRI.rowW.alloc _) ⟨w.heap.size, 0, none⟩ 1 1 (ints [b]) rfl (fun j u hu => by
    rw [Addr.add_lit]
    show World.cell? _ ⟨w.heap.size, 0 + j, none⟩ = _
    rw [cell_block _ _ _ _ _ _ hb3, Nat.zero_add, ← Array.getElem?_toList]
    exact hu) (ints_one [b]) (by unfold maxLen; omega) (by omega) (by simp; omega)
  have hk : Kept (fun k => wv.ownBlock = some k) w (w.alloc (.cells #[.int .u8 b] 5)) := (Kept.refl _ w).alloc _
  refine ⟨v', w', h1, R.push 3 (by omega) (V := v4 v8 v9 v10 v') (hk.grown h3 (fun k hk => .inr hk)) ?_ ?_ (fun j hj hji => ?_) (fun j hj hji => ?_)⟩
  · show World.ownsRow _ _ 5 1 v' (ints (xs ++ [b])).length (ints (xs ++ [b]))
    rw [ints_len, List.length_append, show ints (xs ++ [b]) = ints xs ++ ints [b] by rw [ints, ints, ints, List.map_append]]
    exact h2
  · intro g hg
    rcases h4 with h4 | h4
    · exact .inl (h4.symm.trans hg)
    · have : (w.alloc (.cells #[.int .u8 b] 5)).heap.size = g := Option.some.inj (h4.symm.trans hg)
      exact .inr (by rw [← this]; simp)
  · match j, hj, hji with
    | 0, _, _ => rfl
    | 1, _, _ => rfl
    | 2, _, _ => rfl
    | 3, _, h => exact absurd rfl h
  · match j, hj, hji with
    | 0, _, _ => rfl
    | 1, _, _ => rfl
    | 2, _, _ => rfl
    | 3, _, h => exact absurd rfl h
/-- Bytes laid so far. -/
def layK (zs ys : List Int) (tg k : Nat) : List Int := zs.take tg ++ ys.take k ++ zs.drop (tg + k)
theorem layK_zero (zs ys : List Int) (tg : Nat) : layK zs ys tg 0 = zs := by
  rw [layK, List.take_zero, List.append_nil, Nat.add_zero, List.take_append_drop]
theorem layK_len (zs ys : List Int) (tg k : Nat) (h : tg + k ≤ zs.length) (hk : k ≤ ys.length) : (layK zs ys tg k).length = zs.length := by
  rw [layK, List.length_append, List.length_append, List.length_take, List.length_take, List.length_drop]
  omega
theorem layK_step (zs ys : List Int) (tg k : Nat) (b : Int) (h : tg + k < zs.length) (hb : ys[k]? = some b) : (layK zs ys tg k).set (tg + k) b = layK zs ys tg (k + 1) := by
  have hk := (List.getElem?_eq_some_iff.1 hb).1
  have hl : (zs.take tg ++ ys.take k).length = tg + k := by rw [List.length_append, List.length_take, List.length_take]; omega
  rw [layK, layK, List.set_append_right _ _ (by omega), hl, Nat.sub_self, List.drop_eq_getElem_cons h, List.set_cons_zero, List.take_add_one, hb]
  simp [Nat.add_assoc]
theorem layK_end (xs ys : List Int) (tg r : Nat) (h : xs.length + r = max xs.length (tg + ys.length)) : layK (xs ++ List.replicate r 0) ys tg ys.length = layB xs tg ys := by
  rw [layK, layB, List.take_of_length_le (Nat.le_refl _), List.take_append, List.take_append, List.drop_append, List.take_replicate, List.take_replicate, List.drop_replicate]
  rw [show min (tg - xs.length) r = tg - xs.length by omega, Nat.min_self, show r - (tg + ys.length - xs.length) = 0 by omega]
  simp
end Go.Proofs.Ytmkfjdfpcjkmnaa

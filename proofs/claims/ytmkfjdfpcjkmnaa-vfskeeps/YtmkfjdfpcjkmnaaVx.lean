/-
  The law of one file: its rows beside the files.
-/
import Derived.Test.YtmkfjdfpcjkmnaaVw
namespace Go.Proofs.Ytmkfjdfpcjkmnaa
open Go.RowKit
set_option linter.unusedVariables false
set_option linter.unusedSimpArgs false
set_option maxRecDepth 100000

def num (l : List Int) : List Value := l.map (Value.int .i64)
theorem num_len (l : List Int) : (num l).length = l.length := by simp [num]
theorem num_one (l : List Int) : ∀ u ∈ num l, u.oneCell' = true := fun u hu => by
  obtain ⟨x, _, rfl⟩ := List.mem_map.1 hu
  rfl
def v4 (a b c d : Value) : Nat → Value
  | 0 => a
  | 1 => b
  | 2 => c
  | _ => d
def l4 (a b c d : List Value) : Nat → List Value
  | 0 => a
  | 1 => b
  | 2 => c
  | _ => d
def e4 : Nat → Nat
  | 3 => 5
  | _ => 3
/-- An FS in memory, and beside it four rows, all apart, all new since the world W. -/
structure RI (W w : World) (s : Nat) (σ : FSt) (v : Nat → Value) (l : Nat → List Value) : Prop where
  k : Kept (fun _ => False) W w
  f : Fs w s σ
  o : ∀ q, σ.own s q → W.heap.size ≤ q
  r : ∀ i, i < 4 → w.ownsRow W.heap.size (e4 i) 1 (v i) (l i).length (l i)
  na : ∀ i, i < 4 → ∀ g, (v i).ownBlock = some g → ¬ σ.own s g
  ne : ∀ i, i < 4 → ∀ j, j < 4 → i ≠ j → ∀ g, (v i).ownBlock = some g → (v j).ownBlock ≠ some g
theorem RI.quiet {W w w' : World} {s : Nat} {σ : FSt} {v : Nat → Value} {l : Nat → List Value} (R : RI W w s σ v l) (hk : Kept (fun _ => False) w w') : RI W w' s σ v l :=
  ⟨R.k.trans hk, R.f.same hk, R.o, fun i hi => hk.ownsRow (R.r i hi) (fun _ _ f => f), R.na, R.ne⟩
theorem RI.fsop {W w w' : World} {s : Nat} {σ σ' : FSt} {v : Nat → Value} {l : Nat → List Value} (R : RI W w s σ v l) (hk : Kept (fun k => σ.own s k) w w') (hF : Fs w' s σ') (hg : Grows σ σ' s w.heap.size) : RI W w' s σ' v l := by
  have hs := R.k.size
  refine ⟨R.k.step hk (fun k hk e => absurd (R.o k e) (by omega)), hF, fun q hq => ?_, fun i hi => hk.ownsRow (R.r i hi) (fun g hg e => R.na i hi g hg e), fun i hi g hgv e => ?_, R.ne⟩
  · rcases hg q hq with h | h
    · exact R.o q h
    · omega
  · rcases hg g e with h | h
    · exact R.na i hi g hgv h
    · have := ((R.r i hi).lt g hgv).2
      omega
theorem RI.push {W w w' : World} {s : Nat} {σ : FSt} {v : Nat → Value} {l : Nat → List Value} (R : RI W w s σ v l) (i : Nat) (hi : i < 4) (hk : Kept (fun k => (v i).ownBlock = some k) w w') {V : Nat → Value} {L : Nat → List Value} (hr : w'.ownsRow W.heap.size (e4 i) 1 (V i) (L i).length (L i)) (hn : ∀ g, (V i).ownBlock = some g → (v i).ownBlock = some g ∨ w.heap.size ≤ g)
    (hV : ∀ j, j < 4 → j ≠ i → V j = v j) (hL : ∀ j, j < 4 → j ≠ i → L j = l j) : RI W w' s σ V L := by
  have hnew : ∀ j, j < 4 → j ≠ i → ∀ g, (V i).ownBlock = some g → (v j).ownBlock ≠ some g := fun j hj hji g hg e => by
    rcases hn g hg with h | h
    · exact R.ne i hi j hj (fun e => hji e.symm) g h e
    · have := ((R.r j hj).lt g e).2
      omega
  refine ⟨R.k.step hk (fun k hkk e => absurd ((R.r i hi).lt k e).1 (by omega)), R.f.kept hk (fun q hq e => R.na i hi q e hq), R.o, fun j hj => ?_, fun j hj g hg => ?_, fun j hj m hm hjm g hg e => ?_⟩
  · by_cases hji : j = i
    · subst hji
      exact hr
    · rw [hV j hj hji, hL j hj hji]
      exact hk.ownsRow (R.r j hj) (fun g hg e => R.ne i hi j hj (fun e => hji e.symm) g e hg)
  · by_cases hji : j = i
    · subst hji
      rcases hn g hg with h | h
      · exact R.na j hj g h
      · intro e
        have := R.f.lt e
        omega
    · rw [hV j hj hji] at hg
      exact R.na j hj g hg
  · by_cases hji : j = i
    · subst hji
      rw [hV m hm (fun e => hjm e.symm)] at e
      exact hnew m hm (fun e => hjm e.symm) g hg e
    · rw [hV j hj hji] at hg
      by_cases hmi : m = i
      · subst hmi
        exact hnew j hj hji g e hg
      · rw [hV m hm hmi] at e
        exact R.ne j hj m hm hjm g hg e
theorem nw {A B : Option Nat} {n : Nat} (h : A = B ∨ ∃ g, A = some g ∧ n ≤ g) : ∀ g, A = some g → B = some g ∨ n ≤ g := fun g hg => by
  rcases h with h | ⟨q, h, hq⟩
  · exact .inl (h.symm.trans hg)
  · have hqg : q = g := Option.some.inj (h.symm.trans hg)
    exact .inr (by omega)
theorem info3 : (Try.prog.info? 3).map (fun i => (i.zero, i.size, i.bytes)) = some (some (.int .i64 0), 1, 8) := by kernel_rfl
/-- A number put behind a row of numbers. -/
theorem app_num (w : World) (B : Nat) (v : Value) (zs : List Int) (x : Int) (ho : w.ownsRow B 3 1 v (num zs).length (num zs)) (hB : B ≤ w.heap.size) (hb : zs.length ≤ 1000000) :
    ∃ v' w', (Builtin.append_ #[44, 44] 44 #[v, .slice (some ⟨w.heap.size, 0, none⟩) 1 1]).run Try.prog (w.alloc (.cells #[.int .i64 x] 3)) = .ok v' w' ∧ w'.ownsRow B 3 1 v' (num (zs ++ [x])).length (num (zs ++ [x])) ∧ Kept (fun k => v.ownBlock = some k) w w' ∧ (v'.ownBlock = v.ownBlock ∨ ∃ g, v'.ownBlock = some g ∧ w.heap.size ≤ g) := by
  obtain ⟨i, hi, hz, hs, hby⟩ := info_parts info3
  have hnl := num_len zs
  have hb3 : (w.alloc (.cells #[.int .i64 x] 3)).heap[w.heap.size]? = some (.cells #[.int .i64 x] 3 (0, 0)) := alloc_new _ _ rfl
  obtain ⟨v', w', h1, h2, h3, _, h4⟩ := run_append_own_at (P := Try.prog) (w.alloc (.cells #[.int .i64 x] 3)) B 44 44 3 i _ 1 8 Try.underlying44 hi hz hs hby rfl (by decide) v (num zs).length (num zs) (ho.alloc _) ⟨w.heap.size, 0, none⟩ 1 1 (num [x]) rfl (fun j u hu => by
    rw [Addr.add_lit]
    show World.cell? _ ⟨w.heap.size, 0 + j, none⟩ = _
    rw [cell_block _ _ _ _ _ _ hb3, Nat.zero_add, ← Array.getElem?_toList]
    exact hu) (num_one [x]) (by unfold maxLen; omega) (by omega) (by simp; omega)
  refine ⟨v', w', h1, ?_, ?_, ?_⟩
  · unfold num at *
    rw [List.map_append, List.length_append]
    exact h2
  · have hk : Kept (fun k => v.ownBlock = some k) w (w.alloc (.cells #[.int .i64 x] 3)) := (Kept.refl _ w).alloc _
    exact hk.grown h3 (fun k hk => .inr hk)
  · rcases h4 with h4 | h4
    · exact .inl h4
    · exact .inr ⟨_, h4, by simp⟩
theorem bit_one (n : Int) (h0 : -9223372036854775808 ≤ n) (h1 : n ≤ 9223372036854775807) : bits .and .i64 n 1 = n % 2 := by
  show IntKind.i64.wrap ((BitVec.ofInt 64 n &&& BitVec.ofInt 64 1).toNat : Int) = _
  have h : (BitVec.ofInt 64 n &&& BitVec.ofInt 64 1).toNat = (n % 2).toNat := by
    rw [BitVec.toNat_and]
    have e1 : (BitVec.ofInt 64 1).toNat = 1 := by decide
    rw [e1, Nat.and_one_is_mod, BitVec.toNat_ofInt]
    omega
  rw [h]
  simp [IntKind.wrap, IntKind.bits, IntKind.signed]
  omega
end Go.Proofs.Ytmkfjdfpcjkmnaa

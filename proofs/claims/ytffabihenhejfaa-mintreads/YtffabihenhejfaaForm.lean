/-
  (*Writer).form, Num by contract.
-/
import Derived.Test.YtffabihenhejfaaDone
namespace Go.Proofs.Ytffabihenhejfaa
open Go.RowKit
set_option linter.unusedVariables false

/-- A body without results that ends by 'return'. -/
theorem body_retv {P : Program} {fn : Func} {R : Ending → World → Prop} {a : Act} {w : World} (hr : fn.results = #[]) (hd : a.defers = []) (hR : R (.returned (.tuple #[])) w) : bodyPost P fn R .ret a w :=
  bodyPost_ret (results_none hr _ _ _) hd hR

theorem hid_of {p : Prop} (h : p) : Hid p := h

theorem wr_alloc {w : World} {a : Nat} {v : Value} {l : List Int} (hw : Wr w a v l) (o : Obj) : Wr (w.alloc o) a v l :=
  done_close hw ((Below.refl _ _).alloc (Nat.le_refl _) o)

set_option maxRecDepth 100000 in
set_option maxHeartbeats 1000000 in
theorem wform_small (a : Nat) (v : Value) (l : List Int) (u : Int) (w : World) (hw : Wr w a v l) (h0 : 0 ≤ u) (h1 : u ≤ 247) (hfit : l.length + 1 ≤ 4194304) :
    Calls Try.prog 54 #[.pointer (some ⟨a, 0, none⟩), .int .u64 u] w fun e w' => e = .returned (.tuple #[]) ∧
      ∃ v', Wr w' a v' (l ++ [u]) ∧ Kept (fun k => k = a ∨ v.ownBlock = some k) w w' ∧ (v'.ownBlock = v.ownBlock ∨ ∃ g, v'.ownBlock = some g ∧ w.heap.size ≤ g) := by
  have hraw := raw_any a v l ⟨w.heap.size, 0, none⟩ 1 1 [u] (w.alloc (.cells #[.int .u8 u] 5)) (wr_alloc hw _) rfl (fun i hi => by
    obtain rfl : i = 0 := by omega
    exact cell_one_new w _ 5 0 _ rfl) hfit
  clear hw
  go_enter Try.func54, Try.ntmps54
  go_wp2_with fail
  refine hraw.mono ?_
  rintro e w1 ⟨rfl, v', hv', hk, hat⟩
  go_wp2
  refine body_retv rfl rfl ?_
  refine ⟨rfl, v', hv', ((Kept.refl _ w).alloc _).trans hk, ?_⟩
  rcases hat with h | h
  · exact .inl h
  · exact .inr ⟨_, h, by simp⟩

theorem wr_kept {w w1 : World} {a : Nat} {v : Value} {l : List Int} {S : Nat → Prop} (hw : Wr w a v l) (h : Kept S w w1) (hS : ∀ k, k < w.heap.size → ¬ S k) : Wr w1 a v l := by
  obtain ⟨h0, h1, h2⟩ := hw
  exact ⟨(h.block a (Array.getElem?_eq_some_iff.1 h0).1 (hS a (Array.getElem?_eq_some_iff.1 h0).1)).trans h0, h.ownsRow h1 (fun g hg => hS g (h1.lt g hg).2), h2⟩

theorem own_cells {w : World} {base : Nat} {g n cap : Nat} {xs : List Int} (h : w.ownsRow base 5 1 (.slice (some ⟨g, 0, none⟩) n cap) n (xs.map (Value.int .u8))) : ∀ i, i < n → w.cell? ((⟨g, 0, none⟩ : Addr).add i) = some (.int .u8 (xs.getD i 0)) := by
  intro i hi
  have hl := h.1
  simp at hl
  exact h.cells (g := g) rfl i _ (by simp [List.getElem?_map, List.getElem?_eq_getElem (show i < xs.length by omega), List.getD])

theorem pow8 (n : Nat) : (2 : Int) ^ (8 * n) = (256 : Int) ^ n := by
  induction n with
  | zero => rfl
  | succ n ih => rw [Nat.mul_succ, Int.pow_add, ih, Int.pow_succ]; rfl

theorem form_step {w wr w' : World} {b v' : Value} {k K : Nat} {u : Int} {o : Obj} (hlt : k < K) (hkept : Kept (fun _ => False) w wr)
    (hown : wr.ownsRow w.heap.size 5 1 b (k + 1) (((247 + (K : Int)) :: (Mth.be K u).take k).map (Value.int .u8)))
    (hown' : w'.ownsRow w.heap.size 5 1 v' (k + 1 + 1) (Value.int .u8 (247 + (K : Int)) :: (List.take k (List.map (Value.int .u8) (Mth.be K u)) ++ [Value.int .u8 (u / 2 ^ (8 * (K - 1 - k)) % 256)])))
    (hgrow : (wr.alloc o).grownBy w' b.ownBlock) :
    w'.ownsRow w.heap.size 5 1 v' (k + 1 + 1) (((247 + (K : Int)) :: (Mth.be K u).take (k + 1)).map (Value.int .u8)) ∧ Kept (fun _ => False) w w' := by
  constructor
  · rw [Mth.be_take_succ K u k hlt, ← pow8]
    simpa using hown'
  · exact (hkept.alloc o).grown hgrow (fun g hg => .inl (hown.lt g hg).1)

set_option maxRecDepth 100000 in
set_option maxHeartbeats 1000000 in
theorem wform_big (a : Nat) (v : Value) (l : List Int) (u : Int) (w : World) (hw : Wr w a v l) (h0 : 247 < u) (h1 : u < 18446744073709551616) (K : Nat) (hK : Mth.sz u = K) (hK8 : K ≤ 8) (hK1 : 1 ≤ K) (hfit : l.length + (K + 1) ≤ 4194304) :
    Calls Try.prog 54 #[.pointer (some ⟨a, 0, none⟩), .int .u64 u] w fun e w' => e = .returned (.tuple #[]) ∧
      ∃ v', Wr w' a v' (l ++ ((247 + (K : Int)) :: Mth.be K u)) ∧ Kept (fun k => k = a ∨ v.ownBlock = some k) w w' ∧ (v'.ownBlock = v.ownBlock ∨ ∃ g, v'.ownBlock = some g ∧ w.heap.size ≤ g) := by
  obtain ⟨i0, hi, hz0, hz1, hz2⟩ := info_parts Try.info5
  have hsize := size_any u w (by omega) h1
  rw [hK] at hsize
  clear hK
  have HW : Hid (Wr w a v l) := hw
  clear hw
  have h2 : (K : Int) ≤ 8 := by omega
  go_enter Try.func54, Try.ntmps54
  go_wp2_with (go_at_call 65; refine hsize.mono ?_; rintro e w1 ⟨rfl, hw1⟩; have hw2 := hw1.symm; subst hw2)
  go_loopw [5, 21] (fun b i wr => ∃ k : Nat, k ≤ K ∧ i = .int .i64 k ∧ wr.ownsRow w.heap.size 5 1 b (k + 1) (((247 + (K : Int)) :: (Mth.be K u).take k).map (Value.int .u8)) ∧ Kept (fun _ => False) w wr) (fun _ i _ => K - (intOf i).toNat)
  case atStart =>
    refine ⟨0, Nat.zero_le _, rfl, ?_, (Kept.refl _ w).alloc _⟩
    exact ⟨rfl, .inr ⟨w.heap.size, 1, #[.int .u8 (247 + (K : Int))], rfl, Nat.le_refl _, heap_alloc_new w _, Nat.le_refl _, by decide, rfl, rfl⟩⟩
  case round =>
    obtain ⟨k, hk, rfl, hown, hkept⟩ := hrel
    by_cases hlt : k < K
    · have HO := hid_of hown
      clear hown
      have hws := hkept.size
      go_wp2_with (at_builtin; refine wpList_append_own _ rfl (.tmp 24) (.tmp 33) 25 rfl w.heap.size 5 i0 (.int .u8 0) 1 1 Try.underlying25 hi hz0 hz1 hz2 rfl (by decide) _ _ _ rfl (HO.out.alloc _) ⟨wr.heap.size, 0, none⟩ 1 1 [.int .u8 (u / 2 ^ (8 * (K - 1 - k)) % 256)] rfl rfl (cell_one_new _ _ _) (by intro u hu; simp at hu; subst hu; rfl) (by unfold maxLen; omega) (by omega) (by simp; omega) ?_)
      intro v' w' hown' hgrow hnil
      have R := form_step hlt hkept HO.out hown' hgrow
      clear hown' hgrow hnil HO
      go_wp2
      go_roundw
      case rel => exact ⟨k + 1, by omega, by go_num, R.1, R.2⟩
      case measure => simp [intOf]; omega
    · obtain rfl : k = K := by omega
      obtain ⟨g, cap, rfl⟩ : ∃ g cap, u5 = .slice (some ⟨g, 0, none⟩) (k + 1) cap := by
        rcases hown.2 with ⟨_, h⟩ | ⟨g, cap, _, h, _⟩
        · omega
        · exact ⟨g, cap, h⟩
      have hraw := raw_any a v l ⟨g, 0, none⟩ (k + 1) cap ((247 + (k : Int)) :: (Mth.be k u).take k) wr (wr_kept HW.out hkept (by simp)) (by simp [Mth.be_length]) (own_cells hown) hfit
      rw [show (Mth.be k u).take k = Mth.be k u from List.take_of_length_le (by rw [Mth.be_length]; exact Nat.le_refl _)] at hraw
      clear hown
      go_wp2_with fail
      refine hraw.mono ?_
      rintro e w2 ⟨rfl, v', hv', hk', hat⟩
      go_wp2
      go_end0
      refine ⟨rfl, v', hv', (hkept.mono (by simp)).trans hk', ?_⟩
      have := hkept.size
      rcases hat with h | h
      · exact .inl h
      · exact .inr ⟨_, h, this⟩
end Go.Proofs.Ytffabihenhejfaa

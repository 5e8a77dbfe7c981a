/-
  MintBig: the walk.
-/
import Derived.Test.YtffabihenhejfabHead
namespace Go.Proofs.Ytffabihenhejfab
open Go.RowKit
set_option linter.unusedVariables false

/-- So many bytes 0, as 'make' lays them. -/
def zer (n : Nat) : Array Value := madeCells (Value.int .u8 0).cells n

theorem zer_size (n : Nat) : (zer n).size = n := size_madeCells _ n
theorem zer_at (n i : Nat) (h : i < n) : (zer n)[i]? = some (.int .u8 0) := by
  simp [zer, madeCells, h, Value.cells, Nat.mod_one]

theorem make_any (W : World) (l : Nat) (h : l ≤ 140737488355328) : (Instr.makeSlice 31 (.int .i64 (l : Int)) (.int .i64 (l : Int))).run Try.prog W = .ok (.slice (some ⟨W.heap.size, 0, none⟩) l l) (W.alloc (.cells (zer l) 5)) := by
  obtain ⟨i0, hi, hz0, hz1, hz2⟩ := info_parts Try.info5
  have := run_make (P := Try.prog) W 31 5 i0 (.int .u8 0) Try.underlying31 hi hz0 .i64 .i64 (l : Int) (l : Int) (by omega) (by omega) (by rw [hz2]; omega) (by omega)
  simpa [zer, hz1] using this

/-- So many times one byte. -/
def rep (n : Nat) (x : Int) : List Int := List.replicate n x
theorem rep_length (n : Nat) (x : Int) : (rep n x).length = n := by simp [rep]
theorem rep_at (n : Nat) (x : Int) (i : Nat) (h : i < n) : (rep n x).getD i 0 = x := by simp [rep, List.getD, h]

/-- While 'front' is filled: its block, the first k bytes of it. -/
def Filled (W0 wr : World) (b N k : Nat) (x : Int) : Prop :=
  ∃ cur : Array Value, wr.heap[b]? = some (.cells cur 5 (0, 0)) ∧ cur.size = N ∧ (∀ i, i < k → cur[i]? = some (.int .u8 x)) ∧ Kept (fun q => q = b) W0 wr

theorem Filled.cells {W0 wr : World} {b N k : Nat} {x : Int} (h : Filled W0 wr b N k x) (hk : k < N) : (∃ u, wr.cell? ⟨b, k, none⟩ = some u) ∧ wr.frozen? ⟨b, k, none⟩ = false := by
  obtain ⟨cur, h0, h1, h2, h3⟩ := h
  refine ⟨⟨cur[k]'(by omega), ?_⟩, frozen_block _ _ _ _ _ h0⟩
  rw [cell_block _ _ _ _ _ _ h0]
  exact Array.getElem?_eq_getElem (by omega)

theorem Filled.step {W0 wr : World} {b N k : Nat} {x : Int} (h : Filled W0 wr b N k x) (hk : k < N) : Filled W0 (wr.setCell ⟨b, k, none⟩ (.int .u8 x)) b N (k + 1) x := by
  obtain ⟨cur, h0, h1, h2, h3⟩ := h
  refine ⟨_, set_block _ _ _ _ _ _ h0 _, by simp [h1], fun i hi => ?_, h3.trans (kept_set _ _ _ _)⟩
  rw [Array.getElem?_setIfInBounds]
  by_cases e : k = i
  · subst e
    rw [if_pos rfl, if_pos (by omega)]
  · rw [if_neg e]
    exact h2 i (by omega)

theorem Filled.done {W0 wr : World} {b N : Nat} {x : Int} (h : Filled W0 wr b N N x) : ∀ i, i < N → wr.cell? ((⟨b, 0, none⟩ : Addr).add i) = some (.int .u8 ((rep N x).getD i 0)) := by
  obtain ⟨cur, h0, h1, h2, h3⟩ := h
  intro i hi
  rw [rep_at N x i hi, Addr.add_lit, cell_block _ _ _ _ _ _ h0, Nat.zero_add]
  exact h2 i hi

theorem full_facts (N M : Nat) (x : Int) (h : N + M = 4194304) : ∃ L : List Int, rep N x ++ rep M 0 = L ∧ L.length = 4194304 ∧ (0 < N → L.getD 0 0 = x ∧ L.getD (N - 1) 0 = x) ∧ (N < 4194304 → L.getD N 0 = 0 ∧ L.getD 4194303 0 = 0) := by
  refine ⟨_, rfl, by simp [rep_length, h], fun h0 => ⟨?_, ?_⟩, fun h0 => ⟨?_, ?_⟩⟩
  · rw [List.getD, List.getElem?_append_left (by rw [rep_length]; omega)]
    exact rep_at N x 0 h0
  · rw [List.getD, List.getElem?_append_left (by rw [rep_length]; omega)]
    exact rep_at N x (N - 1) (by omega)
  · rw [List.getD, List.getElem?_append_right (by rw [rep_length]; omega), rep_length]
    exact rep_at M 0 _ (by omega)
  · rw [List.getD, List.getElem?_append_right (by rw [rep_length]; omega), rep_length]
    exact rep_at M 0 _ (by omega)

theorem put_ok (l m : List Int) (h : l.length + m.length ≤ 4194304) : St.put (.ok l) m = .ok (l ++ m) := by simp only [St.put, if_pos h]
theorem put_full (l m : List Int) (h : 4194304 < l.length + m.length) : St.put (.ok l) m = .error 2 := by simp only [St.put, if_neg (show ¬ l.length + m.length ≤ 4194304 by omega)]

set_option maxRecDepth 100000 in
set_option maxHeartbeats 1000000 in
/-- Bytes(nil), where there is no room for its number. -/
theorem bytes_nil (a : Nat) (v : Value) (s : St) (k : Int) (w : World) (hw : WS w a v s) (hk : s.put (Mth.form 0) = .error k) :
    Calls Try.prog 23 #[.pointer (some ⟨a, 0, none⟩), .slice none 0 0] w (PutS a v (.error k) w) := by
  have hn := num_s a v s 0 w hw (by decide) (by decide)
  unfold St.num at hn
  rw [if_neg (by decide), hk] at hn
  have HN := hid_of hn
  clear hn hw hk
  go_enter Try.func23, Try.ntmps23
  go_wp2_with fail
  refine HN.out.mono ?_
  rintro e w1 ⟨rfl, v1, hw1, hk1, ho1⟩
  have hraw := hid_of (raw_bad a k none 0 0 w1 hw1.1 hw1.2.1 (by decide))
  have HP := hid_of (PutS.next hk1 ho1 (PutS.same hw1))
  clear HN hw1 hk1 ho1
  go_wp2_with fail
  refine hraw.out.mono ?_
  rintro e w2 ⟨rfl, rfl⟩
  clear hraw
  go_wp2
  go_end0
  exact HP.out

theorem form_pos (u : Int) : 1 ≤ (Mth.form u).length := by
  unfold Mth.form
  split <;> simp

end Go.Proofs.Ytffabihenhejfab

/-
  What is read, as texts; a file read in pieces.
-/
import Derived.Test.YtmkfjdfpcjkmnaaVs
import Derived.Laws.BytesString
import Derived.Laws.IdiomStrings
namespace Go.Proofs.Ytmkfjdfpcjkmnaa
open Go.RowKit
set_option linter.unusedVariables false
set_option linter.unusedSimpArgs false
set_option maxRecDepth 100000

/-- Bytes as a string. -/
def str (xs : List Int) : ByteArray := xs.foldl (fun r n => r.push (UInt8.ofNat n.toNat)) ByteArray.empty
theorem push_data (r : ByteArray) (b : UInt8) : (r.push b).data.toList = r.data.toList ++ [b] := by simp [ByteArray.push]
theorem fold_data (xs : List Int) : ∀ r : ByteArray, (xs.foldl (fun r n => r.push (UInt8.ofNat n.toNat)) r).data.toList = r.data.toList ++ xs.map fun n => UInt8.ofNat n.toNat := by
  induction xs with
  | nil => intro r; simp
  | cons x xs ih => intro r; rw [List.foldl_cons, ih, push_data]; simp
theorem str_data (xs : List Int) : (str xs).data.toList = xs.map fun n => UInt8.ofNat n.toNat := by
  unfold str
  rw [fold_data]
  rfl
theorem str_app (xs ys : List Int) : (str xs).toList ++ (str ys).toList = (str (xs ++ ys)).toList := by
  rw [ByteArray.toList_eq, ByteArray.toList_eq, ByteArray.toList_eq, str_data, str_data, str_data, List.map_append]
theorem conv_row (w : World) (B : Nat) (v : Value) (xs : List Int) (h : w.ownsRow B 5 1 v xs.length (ints xs)) : (convert 33 9 v).run Try.prog w = .ok (.string (str xs)) w := by
  rcases id h with ⟨hl, ⟨rfl, h0⟩ | ⟨g, cap, cur, rfl, _, hg, _⟩⟩
  · have hx : xs = [] := List.eq_nil_of_length_eq_zero h0
    subst hx
    rw [run_convert_bytes_string w 33 9 5 none 0 0 Try.underlying33 Try.underlying5 Try.underlying9]
    simp [Conv.bytesToString, str]
  · rw [run_convert_bytes_string w 33 9 5 _ _ cap Try.underlying33 Try.underlying5 Try.underlying9]
    refine run_bytesToString w _ _ cap xs ?_
    have := run_loadCells_list (P := Try.prog) w ⟨g, 0, none⟩ (ints xs) (h.cells (g := g) rfl)
    rw [ints_len] at this
    exact this
theorem used_any {w : World} {s : Nat} {σ : FSt} (H : Fs w s σ) : Calls Try.prog 11 #[.pointer (some ⟨s, 0, none⟩)] w fun e w' => e = .returned (.agg #[.int .i64 σ.ub, .int .i64 σ.uf, .int .i64 σ.uo]) ∧ Kept (fun _ => False) w w' := by
  have hk : Kept (fun _ => False) w (w.alloc (.cells #[.int .i64 0, .int .i64 0, .int .i64 0] 24)) := (Kept.refl _ w).alloc _
  have hF := H.same hk
  have c3 := hF.cell 3 (v := .int .i64 σ.ub) rfl
  have c4 := hF.cell 4 (v := .int .i64 σ.uf) rfl
  have c5 := hF.cell 5 (v := .int .i64 σ.uo) rfl
  generalize σ.ub = u1 at *
  generalize σ.uf = u2 at *
  generalize σ.uo = u3 at *
  clear H hF hk
  have hb : (w.alloc (.cells #[.int .i64 u1, .int .i64 u2, .int .i64 u3] 24)).heap[w.heap.size]? = some (.cells #[.int .i64 u1, .int .i64 u2, .int .i64 u3] 24 (0, 0)) := alloc_new _ _ rfl
  go_enter Try.func11, Try.ntmps11
  go_wp2
  refine bodyPost_ret (v := .agg #[.int .i64 u1, .int .i64 u2, .int .i64 u3]) ?_ rfl ⟨rfl, (Kept.refl _ w).alloc _⟩
  exact results_cell_row (fn := Try.f11) (p := 2) rfl _ _ w.heap.size 24 #[.int .i64 u1, .int .i64 u2, .int .i64 u3] (0, 0) _ (by rfl) hb Try.underlying24 rfl (by kernel_rfl)

theorem drops_lays {κ α : Type} [DecidableEq κ] : ∀ (es : List (Me κ α)) (d : κ) (a : α) (b : Nat), look es d = none → drops (lays es d a b) d = es
  | [], d, a, b, _ => by simp [lays, drops]
  | x :: es, d, a, b, h => by
    rw [look] at h
    by_cases hk : d = x.k
    · rw [if_pos hk] at h; cases h
    · rw [if_neg hk] at h
      rw [lays, if_neg hk, drops, if_neg hk, drops_lays es d a b h]
theorem lays_lays {κ α : Type} [DecidableEq κ] : ∀ (es : List (Me κ α)) (d : κ) (a a' : α) (b b' : Nat), ∃ b'', lays (lays es d a b) d a' b' = lays es d a' b''
  | [], d, a, a', b, b' => ⟨b, by simp [lays]⟩
  | x :: es, d, a, a', b, b' => by
    by_cases hk : d = x.k
    · exact ⟨b, by rw [lays, if_pos hk, lays, if_pos rfl, lays, if_pos hk]⟩
    · obtain ⟨b'', h⟩ := lays_lays es d a a' b b'
      exact ⟨b'', by rw [lays, if_neg hk, lays, if_neg hk, lays, if_neg hk, h]⟩
theorem lays_same {κ α : Type} [DecidableEq κ] : ∀ (es : List (Me κ α)) (d : κ) (a : α) (b : Nat), look es d = some a → lays es d a b = es
  | x :: es, d, a, b, h => by
    rw [look] at h
    by_cases hk : d = x.k
    · rw [if_pos hk] at h
      cases h
      rw [lays, if_pos hk, hk]
    · rw [if_neg hk] at h
      rw [lays, if_neg hk, lays_same es d a b h]
theorem read_any {w : World} {s : Nat} {σ : FSt} (H : Fs w s σ) (h n : Int) (x : Ha) (hx : look σ.hs h = some x) (hm : x.md = 0) (hn : 0 ≤ n) (f : Fi) (hf : look σ.fs x.p = some f) (pl k : Nat) (hpl : x.pl = pl) (hp1 : pl ≤ 2097152) (hz : readN x f.xs.length n = k) :
    Calls Try.prog 22 #[.pointer (some ⟨s, 0, none⟩), .int .i64 h, .int .i64 n] w fun e w' => ReadR w s σ h x pl (f.xs.drop pl) k e w' := by
  by_cases hk0 : 0 < k
  · exact read_ok H h n x hx hm hn f hf pl k hpl hz hk0
  · obtain rfl : k = 0 := by omega
    refine (read_none H h n x hx hm hn f hf (by omega) (by omega) hz).mono ?_
    rintro e w' ⟨rfl, hk⟩
    refine ⟨.slice none 0 0, 0, rfl, ⟨rfl, .inl ⟨rfl, rfl⟩⟩, ?_, hk.mono (fun _ _ f => f.elim)⟩
    rw [lays_same σ.hs h ⟨x.p, (pl : Int) + (0 : Nat), 0⟩ 0 (by rw [hx]; obtain ⟨a, b, c⟩ := x; simp only at hpl hm; rw [hpl, hm]; simp)]
    exact H.same hk
theorem grows_hs {σ σ' : FSt} {s B : Nat} (h1 : σ'.fm = σ.fm) (h2 : σ'.dm = σ.dm) (h3 : σ'.hm = σ.hm) (h4 : σ'.fs = σ.fs) (h5 : σ'.ds = σ.ds) : Grows σ σ' s B := fun k hk => by
  unfold FSt.own at hk
  rw [h1, h2, h3, h4, h5] at hk
  exact .inl hk
def pX : By := [120]
theorem clean_x : cleanOf (⟨#[120]⟩ : ByteArray).data.toList = (pX, 0) := by decide
theorem split_x : splitOf pX = ([], pX, 0) := by decide
theorem clean_ab1 : cleanOf (⟨#[97, 47, 46, 47, 98]⟩ : ByteArray).data.toList = ([97, 47, 98], 0) := by decide
theorem clean_ab2 : cleanOf (⟨#[97, 47, 98]⟩ : ByteArray).data.toList = ([97, 47, 98], 0) := by decide
theorem split_ab : splitOf [97, 47, 98] = ([97], [98], 0) := by decide
theorem split_a : splitOf [97] = ([], [97], 0) := by decide
end Go.Proofs.Ytmkfjdfpcjkmnaa

/-
  What an FS is asked: whether there is a file, a directory, a handle; the least number that is no handle.
-/
import Derived.Test.YtmkfjdfpcjkmnaaVa
namespace Go.Proofs.Ytmkfjdfpcjkmnaa
open Go.RowKit
set_option linter.unusedVariables false
set_option linter.unusedSimpArgs false
set_option maxRecDepth 100000

theorem Fs.cell {w : World} {s : Nat} {σ : FSt} (H : Fs w s σ) (i : Nat) {v : Value} (h : σ.cells[i]? = some v) : w.cell? ⟨s, i, none⟩ = some v := (cell_block _ _ i _ _ _ H.blk).trans h
theorem Fs.lookH {w : World} {s : Nat} {σ : FSt} (H : Fs w s σ) (h : Int) (b : Bool) : (Instr.lookup 74 (.map (some σ.hm)) (.int .i64 h) b).run Try.prog w = .ok (if b then .tuple #[lookV cH zH σ.hs h, .bool (look σ.hs h).isSome] else lookV cH zH σ.hs h) w := by
  obtain ⟨c, hb⟩ := H.mh
  exact run_look fitsH w σ.hm c σ.hs hb h b
theorem Fs.lookF {w : World} {s : Nat} {σ : FSt} (H : Fs w s σ) (p : By) (b : Bool) : (Instr.lookup 72 (.map (some σ.fm)) (.string ⟨p.toArray⟩) b).run Try.prog w = .ok (if b then .tuple #[lookV cF zF σ.fs p, .bool (look σ.fs p).isSome] else lookV cF zF σ.fs p) w := by
  obtain ⟨c, hb⟩ := H.mf
  exact run_look fitsF w σ.fm c σ.fs hb p b
theorem Fs.lookD {w : World} {s : Nat} {σ : FSt} (H : Fs w s σ) (p : By) (b : Bool) : (Instr.lookup 73 (.map (some σ.dm)) (.string ⟨p.toArray⟩) b).run Try.prog w = .ok (if b then .tuple #[lookV cD zF σ.ds p, .bool (look σ.ds p).isSome] else lookV cD zF σ.ds p) w := by
  obtain ⟨c, hb⟩ := H.md
  exact run_look fitsD w σ.dm c σ.ds hb p b

theorem row_slice {w : World} {b e sz : Nat} {v : Value} {n : Nat} {xs : List Value} (h : w.ownsRow b e sz v n xs) : ∃ ao c, v = .slice ao n c := by
  obtain ⟨_, ⟨rfl, rfl⟩ | ⟨g, cap, cur, rfl, _⟩⟩ := h
  · exact ⟨_, _, rfl⟩
  · exact ⟨_, _, rfl⟩
/-- What is told of a path among the files, among the directories. -/
theorem Fs.shapeF {w : World} {s : Nat} {σ : FSt} (H : Fs w s σ) (p : By) : ∃ a b ao n c, lookV cF zF σ.fs p = .agg #[.string a, .string b, .bool false, .slice ao n c] ∧ (∀ f, look σ.fs p = some f → a = ⟨f.p.toArray⟩ ∧ b = ⟨f.nm.toArray⟩ ∧ f.dv = .slice ao n c ∧ n = f.xs.length) ∧ (look σ.fs p = none → a = ⟨#[]⟩ ∧ b = ⟨#[]⟩ ∧ ao = none ∧ n = 0 ∧ c = 0) := by
  unfold lookV
  cases h : look σ.fs p with
  | none => exact ⟨_, _, _, _, _, rfl, fun _ h => (by cases h), fun _ => ⟨rfl, rfl, rfl, rfl, rfl⟩⟩
  | some f =>
    obtain ⟨e, he, _, rfl⟩ := look_there h
    obtain ⟨ao, c, hv⟩ := row_slice (H.rf e he).1
    refine ⟨⟨e.a.p.toArray⟩, ⟨e.a.nm.toArray⟩, ao, _, c, by show Value.agg #[_, _, _, e.a.dv] = _; rw [hv]; rfl, fun _ h => (by cases h; exact ⟨rfl, rfl, hv, rfl⟩), fun h => (by cases h)⟩
theorem Fs.shapeD {w : World} {s : Nat} {σ : FSt} (H : Fs w s σ) (p : By) : ∃ a b d ao n c, lookV cD zF σ.ds p = .agg #[.string a, .string b, .bool d, .slice ao n c] ∧ (∀ f, look σ.ds p = some f → a = ⟨f.p.toArray⟩ ∧ b = ⟨f.nm.toArray⟩ ∧ d = f.d ∧ f.bv = .slice ao n c ∧ n = f.bl.length) ∧ (look σ.ds p = none → a = ⟨#[]⟩ ∧ b = ⟨#[]⟩ ∧ d = false ∧ ao = none ∧ n = 0 ∧ c = 0) := by
  unfold lookV
  cases h : look σ.ds p with
  | none => exact ⟨_, _, _, _, _, _, rfl, fun _ h => (by cases h), fun _ => ⟨rfl, rfl, rfl, rfl, rfl, rfl⟩⟩
  | some f =>
    obtain ⟨e, he, _, rfl⟩ := look_there h
    obtain ⟨ao, c, hv⟩ := row_slice (H.rd e he)
    refine ⟨⟨e.a.p.toArray⟩, ⟨e.a.nm.toArray⟩, e.a.d, ao, _, c, by show Value.agg #[_, _, _, e.a.bv] = _; rw [hv]; rfl, fun _ h => (by cases h; exact ⟨rfl, rfl, rfl, hv, rfl⟩), fun h => (by cases h)⟩
theorem isfile_any {w : World} {s : Nat} {σ : FSt} (H : Fs w s σ) (p : By) :
    Calls Try.prog 40 #[.pointer (some ⟨s, 0, none⟩), .string ⟨p.toArray⟩] w fun e w' => e = .returned (.bool (look σ.fs p).isSome) ∧ Kept (fun _ => False) w w' := by
  have hc := H.cell 6 (v := .map (some σ.fm)) rfl
  have hl := H.lookF p true
  obtain ⟨a, b, ao, n, c, hv, _⟩ := H.shapeF p
  rw [hv, if_pos rfl] at hl
  generalize (look σ.fs p).isSome = q at *
  generalize σ.fm = fm at *
  clear hv H
  go_enter Try.func40, Try.ntmps40
  go_wp2
  exact bodyPost_ret (v := .bool q) (by simp [results, Try.results40, go_sem]) rfl ⟨rfl, (Kept.refl _ w).alloc _⟩

def isDirB (σ : FSt) (p : By) : Bool := (look σ.ds p).isSome || p.isEmpty
theorem isdir_any {w : World} {s : Nat} {σ : FSt} (H : Fs w s σ) (p : By) :
    Calls Try.prog 73 #[.pointer (some ⟨s, 0, none⟩), .string ⟨p.toArray⟩] w fun e w' => e = .returned (.bool (isDirB σ p)) ∧ Kept (fun _ => False) w w' := by
  have hc := H.cell 7 (v := .map (some σ.dm)) rfl
  have hl := H.lookD p true
  obtain ⟨a, b, d, ao, n, c, hv, _⟩ := H.shapeD p
  rw [hv, if_pos rfl] at hl
  unfold isDirB
  generalize (look σ.ds p).isSome = b at *
  generalize σ.dm = fm at *
  clear hv H
  cases b with
  | true =>
    go_enter Try.func73, Try.ntmps73
    go_wp2
    exact bodyPost_ret (v := .bool true) (by simp [results, Try.results73, go_sem]) rfl ⟨rfl, (Kept.refl _ w).alloc _⟩
  | false =>
    go_enter Try.func73, Try.ntmps73
    go_wp2
    exact bodyPost_ret (v := .bool p.isEmpty) (by simp [results, Try.results73, go_sem]) rfl ⟨rfl, (Kept.refl _ w).alloc _⟩

theorem least_any {w : World} {s : Nat} {σ : FSt} (H : Fs w s σ) (k : Nat) (hk : k ≤ 1000000) (hn : look σ.hs (k : Int) = none) (ho : ∀ j : Nat, j < k → (look σ.hs (j : Int)).isSome = true) :
    Calls Try.prog 43 #[.pointer (some ⟨s, 0, none⟩)] w fun e w' => e = .returned (.int .i64 k) ∧ Kept (fun _ => False) w w' := by
  have HF := hid_of H
  have HO := hid_of ho
  have HN := hid_of hn
  clear H ho hn
  go_enter Try.func43, Try.ntmps43
  go_wp2
  go_loopw [3] (fun i wr => ∃ j : Nat, j ≤ k ∧ i = .int .i64 j ∧ Hid (Kept (fun _ => False) w wr)) (fun i _ => k - (intOf i).toNat)
  case atStart => exact ⟨0, by omega, rfl, Kept.refl _ _⟩
  case round =>
    obtain ⟨j, hj, rfl, HK⟩ := hrel
    by_cases hlt : j < k
    · have HC := hid_of (isopen_any (HF.out.same HK.out) (j : Int))
      rw [HO.out j hlt] at HC
      go_wp2_with fail
      refine HC.out.mono ?_
      rintro e w1 ⟨rfl, hk1⟩
      have HK1 := hid_of (HK.out.trans hk1)
      clear hk1 HC
      go_wp2
      go_roundw
      case rel => exact ⟨j + 1, by omega, by go_num, HK1⟩
      case measure => simp [intOf]; omega
    · obtain rfl : j = k := by omega
      have HC := hid_of (isopen_any (HF.out.same HK.out) (j : Int))
      rw [HN.out] at HC
      go_wp2_with fail
      refine HC.out.mono ?_
      rintro e w1 ⟨rfl, hk1⟩
      have HK1 := hid_of (HK.out.trans hk1)
      clear hk1 HC
      go_wp2
      exact bodyPost_ret (v := .int .i64 j) (by simp [results, Try.results43, go_sem]) rfl ⟨rfl, HK1.out⟩
end Go.Proofs.Ytmkfjdfpcjkmnaa
